/- Numbers, items, messages and nodes in memory. -/
import Derived.Test.YtiplnegiphhdlaaRfC
import Derived.Test.YtiplnegiphhdlaaProg
import Derived.WalkKit
import Derived.WalkSpells
import Derived.WalkLawsBesides
import Derived.Deep.QuietTactic
import Derived.BigQuiet
import Derived.Outline
import Derived.Below
import Derived.ProofKit
import Derived.OpenShut
import Derived.ChangeOld
import Derived.Lib.SmallJoins
import Derived.Carry
import Derived.OwnWalk
import Derived.Maps.AppendAt
import Derived.Laws.OwnMore
import Derived.Deep.RegionHeld2
import Derived.Deep.RegionLaw
namespace Go.Proofs.Ytiplnegiphhdlaa
open Go.RowKit

theorem hide {p : Prop} (h : p) : Hid p := h
theorem unhide {p : Prop} (h : Hid p) : p := h
theorem below_new (w : World) (o : Obj) : Below w.heap.size w (w.alloc o) := (Below.refl _ _).alloc (Nat.le_refl _) o
theorem below_via {w w0 w2 : World} (h : Below w.heap.size w w0) (k : Below w0.heap.size w0 w2) : Below w.heap.size w w2 := h.trans (k.mono h.size)
theorem below_drewN {B : Nat} {w w' : World} (h : Below B w w') (n : Nat) : Below B w (w'.drewN n) := ⟨h.os, h.tape, h.output, h.size, fun k hk => h.block k hk⟩
theorem wrap_i64 {n : Int} (h0 : -9223372036854775808 ≤ n) (h1 : n ≤ 9223372036854775807) : IntKind.i64.wrap n = n := by rw [IntKind.wrap_i64]; omega
theorem lt_of_block {w : World} {g : Nat} {o : Obj} (h : w.heap[g]? = some o) : g < w.heap.size := by
  rcases Nat.lt_or_ge g w.heap.size with h' | h'
  · exact h'
  · rw [Array.getElem?_eq_none h'] at h; cases h
theorem heap_alloc_old (w : World) (o : Obj) {k : Nat} (h : k < w.heap.size) : (w.alloc o).heap[k]? = w.heap[k]? := (below_new w o).block k h

/-- a slice of n elements, of k cells each, in a block that is P: these are the cells -/
def SC (P : Nat → Prop) (w : World) (v : Value) (k n : Nat) (cs : List Value) : Prop :=
  cs.length = n * k ∧ ∃ a cap, v = .slice a n cap ∧ n ≤ cap ∧ cap ≤ 9223372036854775807 ∧ (n ≠ 0 → ∃ b off, a = some ⟨b, off, none⟩ ∧ P b ∧ ∀ j u, cs[j]? = some u → w.cell? ⟨b, off + j, none⟩ = some u)
theorem SC.keep {P Q : Nat → Prop} {w w' : World} {v : Value} {k n : Nat} {cs : List Value} (hb : ∀ b, P b → Q b ∧ w'.heap[b]? = w.heap[b]?) (h : SC P w v k n cs) : SC Q w' v k n cs := by
  obtain ⟨h1, a, cap, h2, h3, h4, h5⟩ := h
  refine ⟨h1, a, cap, h2, h3, h4, fun hn => ?_⟩
  obtain ⟨b, off, e1, e2, e3⟩ := h5 hn
  exact ⟨b, off, e1, (hb b e2).1, fun j u hj => (World.cell?_of_block (w := w) (a := ⟨b, off + j, none⟩) (hb b e2).2).trans (e3 j u hj)⟩
theorem SC.nil (P : Nat → Prop) (w : World) (k : Nat) : SC P w (.slice none 0 0) k 0 [] := ⟨by simp, none, 0, rfl, Nat.le_refl _, by omega, fun h => absurd rfl h⟩
theorem SC.own {B : Nat} {w : World} {e : TypeId} {v : Value} {k n : Nat} {cs : List Value} (h : w.ownsRow B e k v n cs) : SC (· < w.heap.size) w v k n cs := by
  have hc := fun g hg => World.ownsRow.cells (w := w) h (g := g) hg
  have hl := h.1
  rcases h.2 with ⟨rfl, rfl⟩ | ⟨g, cap, cur, rfl, hb, hg, hn, hm, _⟩
  · refine ⟨hl, none, 0, rfl, Nat.le_refl _, by omega, fun h => absurd rfl h⟩
  · refine ⟨hl, _, cap, rfl, hn, by unfold maxLen at hm; omega, fun _ => ⟨g, 0, rfl, lt_of_block hg, fun j u hj => ?_⟩⟩
    have := hc g rfl j u hj
    rw [Addr.add_lit] at this
    exact this
theorem SC.own' {B : Nat} {w : World} {e : TypeId} {v : Value} {k n : Nat} {cs : List Value} (h : w.ownsRow B e k v n cs) : SC (fun b => B ≤ b ∧ b < w.heap.size) w v k n cs := by
  have hc := fun g hg => World.ownsRow.cells (w := w) h (g := g) hg
  have hl := h.1
  rcases h.2 with ⟨rfl, rfl⟩ | ⟨g, cap, cur, rfl, hb, hg, hn, hm, _⟩
  · refine ⟨hl, none, 0, rfl, Nat.le_refl _, by omega, fun h => absurd rfl h⟩
  · refine ⟨hl, _, cap, rfl, hn, by unfold maxLen at hm; omega, fun _ => ⟨g, 0, rfl, ⟨hb, lt_of_block hg⟩, fun j u hj => ?_⟩⟩
    have := hc g rfl j u hj
    rw [Addr.add_lit] at this
    exact this
/-- a slice's first ones -/
theorem SC.shape {P : Nat → Prop} {w : World} {v : Value} {k n : Nat} {cs : List Value} (h : SC P w v k n cs) : ∃ a cap, v = .slice a n cap ∧ n ≤ cap ∧ cap ≤ 9223372036854775807 := by
  obtain ⟨_, a, cap, h2, h3, h4, _⟩ := h
  exact ⟨a, cap, h2, h3, h4⟩

theorem SC.shp {P : Nat → Prop} {w : World} {v : Value} {k n : Nat} {cs : List Value} (h : SC P w v k n cs) : ∃ a N cap, v = .slice a N cap ∧ Hid (N = n) ∧ N ≤ cap ∧ cap ≤ 9223372036854775807 := by
  obtain ⟨_, a, cap, h2, h3, h4, _⟩ := h
  exact ⟨a, n, cap, h2, hide rfl, h3, h4⟩

/-- numbers -/
def ints (l : List Int) : List Value := l.map (Value.int .i64)
theorem ints_one (l : List Int) : ∀ u ∈ ints l, u.oneCell' = true := by
  intro u hu
  obtain ⟨_, _, rfl⟩ := List.mem_map.1 hu
  rfl
theorem ints_app (l m : List Int) : ints (l ++ m) = ints l ++ ints m := by simp [ints]
def IV (P : Nat → Prop) (w : World) (v : Value) (l : List Int) : Prop := SC P w v 1 l.length (ints l)
theorem IV.keep {P Q : Nat → Prop} {w w' : World} {v : Value} {l : List Int} (hb : ∀ b, P b → Q b ∧ w'.heap[b]? = w.heap[b]?) (h : IV P w v l) : IV Q w' v l := SC.keep hb h
theorem IV.at {P : Nat → Prop} {w : World} {b off cap n : Nat} {l : List Int} (h : IV P w (.slice (some ⟨b, off, none⟩) n cap) l) {i : Nat} {x : Int} (hx : l[i]? = some x) : w.cell? ⟨b, off + i, none⟩ = some (.int .i64 x) := by
  obtain ⟨_, a, cap', e, _, _, h5⟩ := h
  have hl : l.length ≠ 0 := by intro e; rw [List.length_eq_zero_iff.1 e] at hx; simp at hx
  obtain ⟨b', off', e1, _, e3⟩ := h5 hl
  rw [e1] at e
  cases e
  exact e3 i _ (by simp [ints, hx])
theorem IV.ex {P : Nat → Prop} {w : World} {v : Value} {l : List Int} (h : IV P w v l) (hl : l ≠ []) : ∃ b off cap, v = .slice (some ⟨b, off, none⟩) l.length cap ∧ P b ∧ l.length ≤ cap ∧ cap ≤ 9223372036854775807 := by
  obtain ⟨_, a, cap, e, h3, h4, h5⟩ := h
  obtain ⟨b, off, e1, e2, _⟩ := h5 (fun e => hl (List.length_eq_zero_iff.1 e))
  exact ⟨b, off, cap, by rw [e, e1], e2, h3, h4⟩

/-- items -/
def its (l : List Rf.Item) : List Value := l.flatMap fun x => [.int .i64 x.1, .int .i64 x.2]
theorem its_len (l : List Rf.Item) : (its l).length = l.length * 2 := by
  induction l with
  | nil => rfl
  | cons x l ih => simp only [its, List.flatMap_cons, List.length_append, List.length_cons, List.length_nil] at ih ⊢; omega
theorem its_app (l m : List Rf.Item) : its (l ++ m) = its l ++ its m := by simp [its]
theorem its_one (l : List Rf.Item) : ∀ u ∈ its l, u.oneCell' = true := by
  intro u hu
  obtain ⟨x, _, hx⟩ := List.mem_flatMap.1 hu
  simp at hx
  rcases hx with rfl | rfl <;> rfl
theorem its_at : ∀ {l : List Rf.Item} {i : Nat} {x : Rf.Item}, l[i]? = some x → (its l)[i * 2]? = some (.int .i64 x.1) ∧ (its l)[i * 2 + 1]? = some (.int .i64 x.2)
  | [], i, x, h => by simp at h
  | y :: l, 0, x, h => by
    simp at h
    subst h
    simp [its]
  | y :: l, i + 1, x, h => by
    have := its_at (l := l) (i := i) (x := x) (by simpa using h)
    have e : its (y :: l) = [.int .i64 y.1, .int .i64 y.2] ++ its l := by simp [its]
    rw [e]
    constructor
    · rw [List.getElem?_append_right (by simp; omega)]
      simpa [show (i + 1) * 2 - 2 = i * 2 by omega] using this.1
    · rw [List.getElem?_append_right (by simp; omega)]
      simpa [show (i + 1) * 2 + 1 - 2 = i * 2 + 1 by omega] using this.2
def TV (P : Nat → Prop) (w : World) (v : Value) (l : List Rf.Item) : Prop := SC P w v 2 l.length (its l)
theorem TV.keep {P Q : Nat → Prop} {w w' : World} {v : Value} {l : List Rf.Item} (hb : ∀ b, P b → Q b ∧ w'.heap[b]? = w.heap[b]?) (h : TV P w v l) : TV Q w' v l := SC.keep hb h
theorem TV.at {P : Nat → Prop} {w : World} {b off cap n : Nat} {l : List Rf.Item} (h : TV P w (.slice (some ⟨b, off, none⟩) n cap) l) {i : Nat} {x : Rf.Item} (hx : l[i]? = some x) : w.cell? ⟨b, off + i * 2, none⟩ = some (.int .i64 x.1) ∧ w.cell? ⟨b, off + i * 2 + 1, none⟩ = some (.int .i64 x.2) := by
  obtain ⟨_, a, cap', e, _, _, h5⟩ := h
  have hl : l.length ≠ 0 := by intro e; rw [List.length_eq_zero_iff.1 e] at hx; simp at hx
  obtain ⟨b', off', e1, _, e3⟩ := h5 hl
  rw [e1] at e
  cases e
  exact ⟨e3 _ _ (its_at hx).1, by have := e3 _ _ (its_at hx).2; rwa [← Nat.add_assoc] at this⟩
theorem TV.ex {P : Nat → Prop} {w : World} {v : Value} {l : List Rf.Item} (h : TV P w v l) (hl : l ≠ []) : ∃ b off cap, v = .slice (some ⟨b, off, none⟩) l.length cap ∧ P b ∧ l.length ≤ cap ∧ cap ≤ 9223372036854775807 := by
  obtain ⟨_, a, cap, e, h3, h4, h5⟩ := h
  obtain ⟨b, off, e1, e2, _⟩ := h5 (fun e => hl (List.length_eq_zero_iff.1 e))
  exact ⟨b, off, cap, by rw [e, e1], e2, h3, h4⟩

/-- a message's cells -/
def mcs (m : Rf.Msg) (iv : Value) : List Value := [.int .i64 m.kind, .int .i64 m.frm, .int .i64 m.dest, .int .i64 m.term, .int .i64 m.index, .int .i64 m.logTerm, .int .i64 m.commit, iv, .bool m.yes]
def GV (P : Nat → Prop) (w : World) (v : Array Value) (m : Rf.Msg) : Prop := ∃ iv, v = #[.int .i64 m.kind, .int .i64 m.frm, .int .i64 m.dest, .int .i64 m.term, .int .i64 m.index, .int .i64 m.logTerm, .int .i64 m.commit, iv, .bool m.yes] ∧ TV P w iv m.items
theorem GV.keep {P Q : Nat → Prop} {w w' : World} {v : Array Value} {m : Rf.Msg} (hb : ∀ b, P b → Q b ∧ w'.heap[b]? = w.heap[b]?) (h : GV P w v m) : GV Q w' v m := by
  obtain ⟨iv, h1, h2⟩ := h
  exact ⟨iv, h1, h2.keep hb⟩
/-- messages, cell by cell -/
def MC (P : Nat → Prop) (w : World) : List Rf.Msg → List Value → Prop
  | [], cs => cs = []
  | m :: ms, cs => ∃ iv rest, cs = mcs m iv ++ rest ∧ TV P w iv m.items ∧ MC P w ms rest
theorem MC.keep {P Q : Nat → Prop} {w w' : World} (hb : ∀ b, P b → Q b ∧ w'.heap[b]? = w.heap[b]?) : ∀ {ms : List Rf.Msg} {cs : List Value}, MC P w ms cs → MC Q w' ms cs
  | [], _, h => h
  | _ :: _, _, ⟨iv, rest, h1, h2, h3⟩ => ⟨iv, rest, h1, h2.keep hb, MC.keep hb h3⟩
theorem MC.len {P : Nat → Prop} {w : World} : ∀ {ms : List Rf.Msg} {cs : List Value}, MC P w ms cs → cs.length = ms.length * 9
  | [], _, h => by rw [MC] at h; subst h; rfl
  | m :: ms, cs, ⟨iv, rest, h1, h2, h3⟩ => by
    have := MC.len h3
    subst h1
    simp [mcs]
    omega
theorem MC.app {P : Nat → Prop} {w : World} {b : List Rf.Msg} {ds : List Value} (k : MC P w b ds) : ∀ {a : List Rf.Msg} {cs : List Value}, MC P w a cs → MC P w (a ++ b) (cs ++ ds)
  | [], _, h => by rw [MC] at h; subst h; exact k
  | _ :: _, _, ⟨iv, rest, h1, h2, h3⟩ => ⟨iv, rest ++ ds, by rw [h1, List.append_assoc], h2, MC.app k h3⟩
theorem MC.one {P : Nat → Prop} {w : World} : ∀ {ms : List Rf.Msg} {cs : List Value}, MC P w ms cs → ∀ u ∈ cs, u.oneCell' = true
  | [], _, h => by rw [MC] at h; subst h; intro u hu; cases hu
  | m :: ms, cs, ⟨iv, rest, h1, h2, h3⟩ => by
    subst h1
    intro u hu
    rcases List.mem_append.1 hu with q | q
    · obtain ⟨a, cap, rfl, _⟩ := SC.shape h2
      simp [mcs] at q
      rcases q with rfl | rfl | rfl | rfl | rfl | rfl | rfl | rfl | rfl <;> rfl
    · exact MC.one h3 u q
theorem MC.at {P : Nat → Prop} {w : World} : ∀ {ms : List Rf.Msg} {cs : List Value}, MC P w ms cs → ∀ {i : Nat} {m : Rf.Msg}, ms[i]? = some m → ∃ iv, TV P w iv m.items ∧ ∀ j u, (mcs m iv)[j]? = some u → cs[i * 9 + j]? = some u
  | [], _, _, i, m, hi => by simp at hi
  | m' :: ms, cs, ⟨iv, rest, h1, h2, h3⟩, 0, m, hi => by
    simp at hi
    subst hi h1
    refine ⟨iv, h2, fun j u hj => ?_⟩
    have : j < (mcs m' iv).length := (List.getElem?_eq_some_iff.1 hj).1
    rw [Nat.zero_mul, Nat.zero_add, List.getElem?_append_left this]
    exact hj
  | m' :: ms, cs, ⟨iv, rest, h1, h2, h3⟩, i + 1, m, hi => by
    obtain ⟨iv', k1, k2⟩ := MC.at h3 (i := i) (m := m) (by simpa using hi)
    subst h1
    refine ⟨iv', k1, fun j u hj => ?_⟩
    have hl : (mcs m' iv).length = 9 := rfl
    rw [List.getElem?_append_right (by omega), hl, show (i + 1) * 9 + j - 9 = i * 9 + j by omega]
    exact k2 j u hj
def MV (P : Nat → Prop) (w : World) (v : Value) (ms : List Rf.Msg) : Prop := ∃ cs, SC P w v 9 ms.length cs ∧ MC P w ms cs
theorem MV.keep {P Q : Nat → Prop} {w w' : World} {v : Value} {ms : List Rf.Msg} (hb : ∀ b, P b → Q b ∧ w'.heap[b]? = w.heap[b]?) (h : MV P w v ms) : MV Q w' v ms := by
  obtain ⟨cs, h1, h2⟩ := h
  exact ⟨cs, h1.keep hb, h2.keep hb⟩
theorem MV.nil (P : Nat → Prop) (w : World) : MV P w (.slice none 0 0) [] := ⟨[], SC.nil _ _ _, rfl⟩
theorem MV.ex {P : Nat → Prop} {w : World} {v : Value} {l : List Rf.Msg} (h : MV P w v l) (hl : l ≠ []) : ∃ b off cap, v = .slice (some ⟨b, off, none⟩) l.length cap ∧ P b ∧ l.length ≤ cap ∧ cap ≤ 9223372036854775807 := by
  obtain ⟨cs, ⟨_, a, cap, e, h3, h4, h5⟩, _⟩ := h
  obtain ⟨b, off, e1, e2, _⟩ := h5 (fun e => hl (List.length_eq_zero_iff.1 e))
  exact ⟨b, off, cap, by rw [e, e1], e2, h3, h4⟩
theorem MV.at {P : Nat → Prop} {w : World} {b off cap n : Nat} {l : List Rf.Msg} (h : MV P w (.slice (some ⟨b, off, none⟩) n cap) l) {i : Nat} {m : Rf.Msg} (hx : l[i]? = some m) : ∃ iv, TV P w iv m.items ∧ ∀ j u, (mcs m iv)[j]? = some u → w.cell? ⟨b, off + i * 9 + j, none⟩ = some u := by
  obtain ⟨cs, ⟨_, a, cap', e, _, _, h5⟩, hM⟩ := h
  have hl : l.length ≠ 0 := by intro e; rw [List.length_eq_zero_iff.1 e] at hx; simp at hx
  obtain ⟨b', off', e1, _, e3⟩ := h5 hl
  rw [e1] at e
  cases e
  obtain ⟨iv, k1, k2⟩ := hM.at hx
  exact ⟨iv, k1, fun j u hj => by have := e3 _ u (k2 j u hj); rwa [← Nat.add_assoc] at this⟩

/-- a node -/
def NV (P : Nat → Prop) (w : World) (v : Array Value) (x : Rf.Node) : Prop := ∃ lv vv nv mv, v = #[.int .i64 x.id, .int .i64 x.n, .int .i64 x.term, .int .i64 x.vote, lv, .int .i64 x.commit, .int .i64 x.role, .int .i64 x.boss, vv, nv, mv] ∧ TV P w lv x.log ∧ IV P w vv x.votes ∧ IV P w nv x.next ∧ IV P w mv x.mtch
theorem NV.keep {P Q : Nat → Prop} {w w' : World} {v : Array Value} {x : Rf.Node} (hb : ∀ b, P b → Q b ∧ w'.heap[b]? = w.heap[b]?) (h : NV P w v x) : NV Q w' v x := by
  obtain ⟨lv, vv, nv, mv, h1, h2, h3, h4, h5⟩ := h
  exact ⟨lv, vv, nv, mv, h1, h2.keep hb, h3.keep hb, h4.keep hb, h5.keep hb⟩

/-- in a world that has grown since -/
theorem kept {w w' : World} (hb : Below w.heap.size w w') : ∀ b, b < w.heap.size → b < w'.heap.size ∧ w'.heap[b]? = w.heap[b]? := fun b h => ⟨Nat.lt_of_lt_of_le h hb.size, hb.block b h⟩
abbrev Iv (w : World) (v : Value) (l : List Int) : Prop := IV (· < w.heap.size) w v l
abbrev Tv (w : World) (v : Value) (l : List Rf.Item) : Prop := TV (· < w.heap.size) w v l
abbrev Gv (w : World) (v : Array Value) (m : Rf.Msg) : Prop := GV (· < w.heap.size) w v m
abbrev Mv (w : World) (v : Value) (l : List Rf.Msg) : Prop := MV (· < w.heap.size) w v l
abbrev Nv (w : World) (v : Array Value) (x : Rf.Node) : Prop := NV (· < w.heap.size) w v x

/-- what lies in a block -/
def BK (w : World) (b : Nat) (t : TypeId) (vs : Array Value) : Prop := w.heap[b]? = some (.cells vs t)
theorem BK.low {w : World} {b : Nat} {t : TypeId} {vs : Array Value} (h : BK w b t vs) : b < w.heap.size := lt_of_block h
theorem BK.new (w : World) (t : TypeId) (vs : Array Value) : BK (w.alloc (.cells vs t)) w.heap.size t vs := heap_alloc_new w _
theorem BK.keep {w w' : World} {b : Nat} {t : TypeId} {vs : Array Value} (h : BK w b t vs) (hb : Below w.heap.size w w') : BK w' b t vs := (hb.block b h.low).trans h
theorem BK.at {w : World} {b : Nat} {t : TypeId} {vs : Array Value} (h : BK w b t vs) {j : Nat} {u : Value} (hj : vs[j]? = some u) : w.cell? ⟨b, j, none⟩ = some u := by
  unfold BK at h
  simp [World.cell?, h, hj]
theorem BK.thaw {w : World} {b : Nat} {t : TypeId} {vs : Array Value} (h : BK w b t vs) (j : Nat) : w.frozen? ⟨b, j, none⟩ = false := by
  unfold BK at h
  simp [World.frozen?, h]
theorem BK.set {w : World} {b : Nat} {t : TypeId} {vs : Array Value} (h : BK w b t vs) (j : Nat) (u : Value) : BK (w.setCell ⟨b, j, none⟩ u) b t (vs.setIfInBounds j u) := heap_setCell_same w b j vs t u h
theorem BK.other {w : World} {b : Nat} {t : TypeId} {vs : Array Value} (h : BK w b t vs) (a : Addr) (u : Value) (hne : b ≠ a.block) : BK (w.setCell a u) b t vs := (Below.heap_setCell w a u b hne).trans h
/-- a node in a block -/
abbrev NX (w : World) (b : Nat) (v0 v1 v2 v3 v4 v5 v6 v7 v8 v9 v10 : Value) : Prop := BK w b 25 #[v0, v1, v2, v3, v4, v5, v6, v7, v8, v9, v10]
theorem NX.tell {w : World} {b : Nat} {v0 v1 v2 v3 v4 v5 v6 v7 v8 v9 v10 : Value} (h : NX w b v0 v1 v2 v3 v4 v5 v6 v7 v8 v9 v10) : w.cell? ⟨b, 0, none⟩ = some v0 ∧ w.cell? ⟨b, 1, none⟩ = some v1 ∧ w.cell? ⟨b, 2, none⟩ = some v2 ∧ w.cell? ⟨b, 3, none⟩ = some v3 ∧ w.cell? ⟨b, 4, none⟩ = some v4 ∧ w.cell? ⟨b, 5, none⟩ = some v5 ∧ w.cell? ⟨b, 6, none⟩ = some v6 ∧ w.cell? ⟨b, 7, none⟩ = some v7 ∧ w.cell? ⟨b, 8, none⟩ = some v8 ∧ w.cell? ⟨b, 9, none⟩ = some v9 ∧ w.cell? ⟨b, 10, none⟩ = some v10 :=
  ⟨h.at rfl, h.at rfl, h.at rfl, h.at rfl, h.at rfl, h.at rfl, h.at rfl, h.at rfl, h.at rfl, h.at rfl, h.at rfl⟩
theorem BK.thaw11 {w : World} {b : Nat} {t : TypeId} {vs : Array Value} (h : BK w b t vs) : w.frozen? ⟨b, 0, none⟩ = false ∧ w.frozen? ⟨b, 1, none⟩ = false ∧ w.frozen? ⟨b, 2, none⟩ = false ∧ w.frozen? ⟨b, 3, none⟩ = false ∧ w.frozen? ⟨b, 4, none⟩ = false ∧ w.frozen? ⟨b, 5, none⟩ = false ∧ w.frozen? ⟨b, 6, none⟩ = false ∧ w.frozen? ⟨b, 7, none⟩ = false ∧ w.frozen? ⟨b, 8, none⟩ = false ∧ w.frozen? ⟨b, 9, none⟩ = false ∧ w.frozen? ⟨b, 10, none⟩ = false :=
  ⟨h.thaw _, h.thaw _, h.thaw _, h.thaw _, h.thaw _, h.thaw _, h.thaw _, h.thaw _, h.thaw _, h.thaw _, h.thaw _⟩
/-- a message in a block -/
abbrev GX (w : World) (b : Nat) (v0 v1 v2 v3 v4 v5 v6 v7 v8 : Value) : Prop := BK w b 49 #[v0, v1, v2, v3, v4, v5, v6, v7, v8]
theorem GX.tell {w : World} {b : Nat} {v0 v1 v2 v3 v4 v5 v6 v7 v8 : Value} (h : GX w b v0 v1 v2 v3 v4 v5 v6 v7 v8) : w.cell? ⟨b, 0, none⟩ = some v0 ∧ w.cell? ⟨b, 1, none⟩ = some v1 ∧ w.cell? ⟨b, 2, none⟩ = some v2 ∧ w.cell? ⟨b, 3, none⟩ = some v3 ∧ w.cell? ⟨b, 4, none⟩ = some v4 ∧ w.cell? ⟨b, 5, none⟩ = some v5 ∧ w.cell? ⟨b, 6, none⟩ = some v6 ∧ w.cell? ⟨b, 7, none⟩ = some v7 ∧ w.cell? ⟨b, 8, none⟩ = some v8 :=
  ⟨h.at rfl, h.at rfl, h.at rfl, h.at rfl, h.at rfl, h.at rfl, h.at rfl, h.at rfl, h.at rfl⟩

/-- made since -/
def Fresh (w w' : World) (b : Nat) : Prop := w.heap.size ≤ b ∧ b < w'.heap.size
/-- a node is told -/
def PostN (w : World) (x : Rf.Node) (e : Ending) (w' : World) : Prop := ∃ v, e = .returned (.agg v) ∧ Nv w' v x ∧ Below w.heap.size w w'
theorem PostN.of {w w' : World} {x : Rf.Node} {v : Array Value} (hb : Below w.heap.size w w') (h : Below w.heap.size w w' → Nv w' v x) : PostN w x (.returned (.agg v)) w' := ⟨v, rfl, h hb, hb⟩
/-- a node is told, and messages -/
def PostNM (w : World) (x : Rf.Node × List Rf.Msg) (e : Ending) (w' : World) : Prop := ∃ v m, e = .returned (.tuple #[.agg v, m]) ∧ Nv w' v x.1 ∧ MV (Fresh w w') w' m x.2 ∧ Below w.heap.size w w'
theorem PostNM.of {w w' : World} {x : Rf.Node} {ms : List Rf.Msg} {v : Array Value} {m : Value} (hb : Below w.heap.size w w') (h : Below w.heap.size w w' → Nv w' v x) (k : Below w.heap.size w w' → MV (Fresh w w') w' m ms) : PostNM w (x, ms) (.returned (.tuple #[.agg v, m])) w' := ⟨v, m, rfl, h hb, k hb, hb⟩
def PostNMB (w : World) (x : Rf.Node × List Rf.Msg × Bool) (e : Ending) (w' : World) : Prop := ∃ v m, e = .returned (.tuple #[.agg v, m, .bool x.2.2]) ∧ Nv w' v x.1 ∧ MV (Fresh w w') w' m x.2.1 ∧ Below w.heap.size w w'
theorem PostNMB.of {w w' : World} {x : Rf.Node} {ms : List Rf.Msg} {y : Bool} {v : Array Value} {m : Value} (hb : Below w.heap.size w w') (h : Below w.heap.size w w' → Nv w' v x) (k : Below w.heap.size w w' → MV (Fresh w w') w' m ms) : PostNMB w (x, ms, y) (.returned (.tuple #[.agg v, m, .bool y])) w' := ⟨v, m, rfl, h hb, k hb, hb⟩

/-- messages that a slice owns -/
def MO (B : Nat) (w : World) (sv : Value) (ms : List Rf.Msg) : Prop := ∃ cs, w.ownsRow B 49 9 sv ms.length cs ∧ MC (fun b => B ≤ b ∧ b < w.heap.size ∧ sv.ownBlock ≠ some b) w ms cs
theorem MO.nil (B : Nat) (w : World) : MO B w (.slice none 0 0) [] := ⟨[], World.ownsRow_nil _ _ _ _, rfl⟩
theorem own_same {base : Nat} {e : TypeId} {size : Nat} {w w' : World} {sv : Value} {n : Nat} {xs : List Value} (h : w.ownsRow base e size sv n xs) (hb : ∀ k, sv.ownBlock = some k → w'.heap[k]? = w.heap[k]?) : w'.ownsRow base e size sv n xs := by
  obtain ⟨h1, h2⟩ := h
  refine ⟨h1, ?_⟩
  rcases h2 with h2 | ⟨g, cap, cur, rfl, hg, hh, r⟩
  · exact .inl h2
  · exact .inr ⟨g, cap, cur, rfl, hg, (hb g rfl).trans hh, r⟩
theorem own_below {base : Nat} {e : TypeId} {size : Nat} {w w' : World} {sv : Value} {n : Nat} {xs : List Value} (h : w.ownsRow base e size sv n xs) (hb : Below w.heap.size w w') : w'.ownsRow base e size sv n xs :=
  own_same h fun k hk => hb.block k (World.ownsRow.lt h k hk).2
theorem MO.below {B : Nat} {w w' : World} {sv : Value} {ms : List Rf.Msg} (h : MO B w sv ms) (hb : Below w.heap.size w w') : MO B w' sv ms := by
  obtain ⟨cs, h1, h2⟩ := h
  exact ⟨cs, own_below h1 hb, h2.keep fun b hp => ⟨⟨hp.1, Nat.lt_of_lt_of_le hp.2.1 hb.size, hp.2.2⟩, hb.block b hp.2.1⟩⟩
theorem MO.mv {B : Nat} {w : World} {sv : Value} {ms : List Rf.Msg} (h : MO B w sv ms) : MV (fun b => B ≤ b ∧ b < w.heap.size) w sv ms := by
  obtain ⟨cs, h1, h2⟩ := h
  exact ⟨cs, SC.own' h1, h2.keep fun b hp => ⟨⟨hp.1, hp.2.1⟩, rfl⟩⟩
/-- more go behind those that a slice owns -/
theorem MO.next {B : Nat} {w w' : World} {sv sv' : Value} {ms ks : List Rf.Msg} {cs ds : List Value} (h2 : MC (fun b => B ≤ b ∧ b < w.heap.size ∧ sv.ownBlock ≠ some b) w ms cs)
    (k : MC (fun b => B ≤ b ∧ b < w.heap.size ∧ sv.ownBlock ≠ some b) w ks ds) (ho : w'.ownsRow B 49 9 sv' (ms.length + ks.length) (cs ++ ds)) (hg : w.grownBy w' sv.ownBlock) (hat : sv'.ownBlock = sv.ownBlock ∨ sv'.ownBlock = some w.heap.size) : MO B w' sv' (ms ++ ks) := by
  have hk : ∀ b, (B ≤ b ∧ b < w.heap.size ∧ sv.ownBlock ≠ some b) → (B ≤ b ∧ b < w'.heap.size ∧ sv'.ownBlock ≠ some b) ∧ w'.heap[b]? = w.heap[b]? := by
    intro b ⟨hB, hb, hn⟩
    refine ⟨⟨hB, Nat.lt_of_lt_of_le hb hg.size, fun e => ?_⟩, hg.block b hb (fun e => hn e.symm)⟩
    rcases hat with h | h
    · exact hn (h ▸ e)
    · rw [h] at e; cases e; omega
  refine ⟨cs ++ ds, by rw [List.length_append]; exact ho, MC.app (k.keep hk) (h2.keep hk)⟩
/-- what was there ahead of what is owned is as it was -/
theorem own_old {B : Nat} {w w' : World} {e : TypeId} {size n : Nat} {sv : Value} {cs : List Value} (h : w.ownsRow B e size sv n cs) (hg : w.grownBy w' sv.ownBlock) (hB : B ≤ w.heap.size) : Below B w w' :=
  (Below.refl B w).grown hg hB (fun k hk => (World.ownsRow.lt h k hk).1)

theorem info_I : (Try.prog.info? 3).map (fun i => (i.zero, i.size, i.bytes)) = some (some (.int .i64 0), 1, 8) := by kernel_rfl
theorem info_T : (Try.prog.info? 58).map (fun i => (i.zero, i.size, i.bytes)) = some (some (.agg #[.int .i64 0, .int .i64 0]), 2, 16) := by kernel_rfl
theorem info_M : (Try.prog.info? 49).map (fun i => (i.zero, i.size, i.bytes)) = some (some (.agg #[.int .i64 0, .int .i64 0, .int .i64 0, .int .i64 0, .int .i64 0, .int .i64 0, .int .i64 0, .slice none 0 0, .bool false]), 9, 88) := by kernel_rfl

end Go.Proofs.Ytiplnegiphhdlaa
