/- The package at work: a node as it becomes, and what it has said, in memory. -/
import Derived.Test.YtiplnegiphhdlaaMC
import Derived.Test.YtiplnegiphhdlaaRfD
namespace Go.Proofs.Ytiplnegiphhdlaa
open Go.RowKit

/-- the slices of a node at work, and the cells of what it has said -/
structure Own where
  l : Value
  v : Value
  n : Value
  m : Value
  s : Value
  cs : List Value
def Free (p : Nat) (o : Own) (b : Nat) : Prop := b ≠ p ∧ o.l.ownBlock ≠ some b ∧ o.v.ownBlock ≠ some b ∧ o.n.ownBlock ≠ some b ∧ o.m.ownBlock ≠ some b ∧ o.s.ownBlock ≠ some b
/-- two slices that lie in blocks of their own -/
def dis (a b : Value) : Prop := ∀ k, a.ownBlock = some k → b.ownBlock ≠ some k
theorem dis.symm {a b : Value} (h : dis a b) : dis b a := fun k hb ha => h k ha hb
/-- a slice that lies where it lay, or in a new block -/
def Upd (S : Nat) (a a' : Value) : Prop := a'.ownBlock = a.ownBlock ∨ ∀ k, a'.ownBlock = some k → S ≤ k
theorem Upd.refl (S : Nat) (a : Value) : Upd S a a := .inl rfl
theorem Upd.nil (S : Nat) (a : Value) : Upd S a (.slice none 0 0) := .inr fun k h => by cases h
theorem Upd.at {S : Nat} {a a' : Value} (h : a'.ownBlock = a.ownBlock ∨ a'.ownBlock = some S) : Upd S a a' := h.elim .inl fun e => .inr fun k hk => by rw [e] at hk; cases hk; exact Nat.le_refl _
theorem dis.upd {a a' b : Value} {S : Nat} (h : dis a b) (hb : ∀ k, b.ownBlock = some k → k < S) (u : Upd S a a') : dis a' b := by
  intro k hk hk2
  rcases u with e | e
  · exact h k (e ▸ hk) hk2
  · have := e k hk; have := hb k hk2; omega
theorem ne_upd {a a' : Value} {S b : Nat} (h : a.ownBlock ≠ some b) (hb : b < S) (u : Upd S a a') : a'.ownBlock ≠ some b := by
  intro hk
  rcases u with e | e
  · exact h (e ▸ hk)
  · have := e b hk; omega
structure Ap (p : Nat) (o : Own) : Prop where
  pl : o.l.ownBlock ≠ some p
  pv : o.v.ownBlock ≠ some p
  pn : o.n.ownBlock ≠ some p
  pm : o.m.ownBlock ≠ some p
  ps : o.s.ownBlock ≠ some p
  lv : dis o.l o.v
  ln : dis o.l o.n
  lm : dis o.l o.m
  ls : dis o.l o.s
  vn : dis o.v o.n
  vm : dis o.v o.m
  vs : dis o.v o.s
  nm : dis o.n o.m
  ns : dis o.n o.s
  ms : dis o.m o.s
abbrev workC (x : Rf.Node) (o : Own) : Array Value := #[.int .i64 x.id, .int .i64 x.n, .int .i64 x.term, .int .i64 x.vote, o.l, .int .i64 x.commit, .int .i64 x.role, .int .i64 x.boss, o.v, o.n, o.m, o.s]
/-- a node at work -/
structure WK (B : Nat) (w : World) (p : Nat) (x : Rf.Node) (ms : List Rf.Msg) (o : Own) : Prop where
  blk : BK w p 46 (workC x o)
  low : B ≤ p
  log : w.ownsRow B 58 2 o.l x.log.length (its x.log)
  votes : w.ownsRow B 3 1 o.v x.votes.length (ints x.votes)
  next : w.ownsRow B 3 1 o.n x.next.length (ints x.next)
  mtch : w.ownsRow B 3 1 o.m x.mtch.length (ints x.mtch)
  said : w.ownsRow B 49 9 o.s ms.length o.cs
  mc : MC (fun b => B ≤ b ∧ b < w.heap.size ∧ Free p o b) w ms o.cs
  ap : Ap p o
/-- all else is as it was -/
structure Fr (B p : Nat) (o : Own) (w : World) (o' : Own) (w' : World) : Prop where
  bel : Below B w w'
  fr : ∀ b, b < w.heap.size → Free p o b → Free p o' b ∧ w'.heap[b]? = w.heap[b]?
theorem Fr.refl (B p : Nat) (o : Own) (w : World) : Fr B p o w o w := ⟨Below.refl _ _, fun _ _ h => ⟨h, rfl⟩⟩
theorem Fr.trans {B p : Nat} {o o1 o2 : Own} {w w1 w2 : World} (h : Fr B p o w o1 w1) (k : Fr B p o1 w1 o2 w2) : Fr B p o w o2 w2 :=
  ⟨h.bel.trans k.bel, fun b hb hf => ⟨(k.fr b (Nat.lt_of_lt_of_le hb h.bel.size) (h.fr b hb hf).1).1, (k.fr b (Nat.lt_of_lt_of_le hb h.bel.size) (h.fr b hb hf).1).2.trans (h.fr b hb hf).2⟩⟩
theorem Fr.bk {B p : Nat} {o o' : Own} {w w' : World} (h : Fr B p o w o' w') {b : Nat} {t : TypeId} {vs : Array Value} (hb : BK w b t vs) (hf : Free p o b) : BK w' b t vs := ((h.fr b hb.low hf).2).trans hb
theorem Fr.free {B p : Nat} {o o' : Own} {w w' : World} (h : Fr B p o w o' w') {b : Nat} (hb : b < w.heap.size) (hf : Free p o b) : Free p o' b := (h.fr b hb hf).1
def PW (B p : Nat) (o : Own) (w : World) (x : Rf.Node) (ms : List Rf.Msg) (e : Ending) (w' : World) : Prop := e = .returned (.tuple #[]) ∧ ∃ o', WK B w' p x ms o' ∧ Fr B p o w o' w'

theorem grown_set (w : World) (a : Addr) (u : Value) : w.grownBy (w.setCell a u) (some a.block) := ⟨rfl, rfl, rfl, by simp [World.setCell], fun k _ hk => Below.heap_setCell w a u k (fun e => hk (by rw [e]))⟩
theorem grown_below' {w w' : World} (h : Below w.heap.size w w') (r : Option Nat) : w.grownBy w' r := ⟨h.os, h.tape, h.output, h.size, fun k hk _ => h.block k hk⟩
theorem grown_trans {w w1 w2 : World} {r : Option Nat} (h : w.grownBy w1 r) (k : w1.grownBy w2 r) : w.grownBy w2 r := ⟨k.os.trans h.os, k.tape.trans h.tape, k.output.trans h.output, Nat.le_trans h.size k.size, fun b hb hn => (k.block b (Nat.lt_of_lt_of_le hb h.size) hn).trans (h.block b hb hn)⟩
theorem own_ne {base : Nat} {e : TypeId} {size : Nat} {w w' : World} {v : Value} {n : Nat} {xs : List Value} {r : Option Nat} (h : w.ownsRow base e size v n xs) (hg : w.grownBy w' r) (hd : ∀ k, v.ownBlock = some k → r ≠ some k) : w'.ownsRow base e size v n xs :=
  own_same h fun k hk => hg.block k (World.ownsRow.lt h k hk).2 (fun e => hd k hk e.symm)
theorem WK.lo {B : Nat} {w : World} {p : Nat} {x : Rf.Node} {ms : List Rf.Msg} {o : Own} (h : WK B w p x ms o) : p < w.heap.size := h.blk.low
theorem WK.szB {B : Nat} {w : World} {p : Nat} {x : Rf.Node} {ms : List Rf.Msg} {o : Own} (h : WK B w p x ms o) : B ≤ w.heap.size := Nat.le_trans h.low (Nat.le_of_lt h.lo)

section
variable {B : Nat} {w w1 : World} {p : Nat} {x x' : Rf.Node} {ms : List Rf.Msg} {o : Own}

/-- the world has grown -/
theorem WK.below (h : WK B w p x ms o) (hb : Below w.heap.size w w1) : WK B w1 p x ms o :=
  ⟨h.blk.keep hb, h.low, own_below h.log hb, own_below h.votes hb, own_below h.next hb, own_below h.mtch hb, own_below h.said hb, h.mc.keep fun b ⟨h1, h2, h3⟩ => ⟨⟨h1, Nat.lt_of_lt_of_le h2 hb.size, h3⟩, hb.block b h2⟩, h.ap⟩
theorem Fr.below {B p : Nat} {o : Own} {w w1 : World} (hb : Below w.heap.size w w1) (hB : B ≤ w.heap.size) : Fr B p o w o w1 := ⟨hb.mono hB, fun b h f => ⟨f, hb.block b h⟩⟩
/-- a cell of its own is stored -/
theorem WK.cell (h : WK B w p x ms o) (j : Nat) (u : Value) (hx : x'.log = x.log ∧ x'.votes = x.votes ∧ x'.next = x.next ∧ x'.mtch = x.mtch) (hb : (workC x o).setIfInBounds j u = workC x' o) : WK B (w.setCell ⟨p, j, none⟩ u) p x' ms o := by
  have hg := grown_set w ⟨p, j, none⟩ u
  obtain ⟨e1, e2, e3, e4⟩ := hx
  refine ⟨hb ▸ h.blk.set j u, h.low, ?_, ?_, ?_, ?_, ?_, h.mc.keep fun b ⟨h1, h2, h3⟩ => ⟨⟨h1, Nat.lt_of_lt_of_le h2 hg.size, h3⟩, hg.block b h2 (fun e => h3.1 (by cases e; rfl))⟩, h.ap⟩
  · rw [e1]; exact own_ne h.log hg fun k hk e => h.ap.pl (by cases e; exact hk)
  · rw [e2]; exact own_ne h.votes hg fun k hk e => h.ap.pv (by cases e; exact hk)
  · rw [e3]; exact own_ne h.next hg fun k hk e => h.ap.pn (by cases e; exact hk)
  · rw [e4]; exact own_ne h.mtch hg fun k hk e => h.ap.pm (by cases e; exact hk)
  · exact own_ne h.said hg fun k hk e => h.ap.ps (by cases e; exact hk)
theorem WK.cellFr (h : WK B w p x ms o) (j : Nat) (u : Value) : Fr B p o w o (w.setCell ⟨p, j, none⟩ u) :=
  ⟨(Below.refl _ _).setCell h.low u, fun b _ f => ⟨f, Below.heap_setCell w _ _ b f.1⟩⟩
/-- one of its slices has grown -/
theorem keepMC {o' : Own} {r : Option Nat} (h : WK B w p x ms o) (hg : w.grownBy w1 r) (hr : ∀ b, Free p o b → r ≠ some b) (hf : ∀ b, b < w.heap.size → Free p o b → Free p o' b) : MC (fun b => B ≤ b ∧ b < w1.heap.size ∧ Free p o' b) w1 ms o.cs :=
  h.mc.keep fun b ⟨h1, h2, h3⟩ => ⟨⟨h1, Nat.lt_of_lt_of_le h2 hg.size, hf b h2 h3⟩, hg.block b h2 fun e => hr b h3 e.symm⟩
theorem grownB {B : Nat} {w w1 : World} {e : TypeId} {k n : Nat} {v : Value} {xs : List Value} (h : w.ownsRow B e k v n xs) (hg : w.grownBy w1 v.ownBlock) (hB : B ≤ w.heap.size) : Below B w w1 := own_old h hg hB

theorem WK.setL {l' : Value} {L : List Rf.Item} (h : WK B w p x ms o) (hg : w.grownBy w1 o.l.ownBlock) (ho : w1.ownsRow B 58 2 l' L.length (its L)) (hu : Upd w.heap.size o.l l') :
    WK B (w1.setCell ⟨p, 4, none⟩ l') p { x with log := L } ms { o with l := l' } ∧ Fr B p o w { o with l := l' } (w1.setCell ⟨p, 4, none⟩ l') := by
  have hs := grown_set w1 ⟨p, 4, none⟩ l'
  have hp : BK w1 p 46 (workC x o) := (hg.block p h.lo (fun e => h.ap.pl e.symm)).trans h.blk
  have hf : ∀ b, b < w.heap.size → Free p o b → Free p { o with l := l' } b := fun b hb f => ⟨f.1, ne_upd f.2.1 hb hu, f.2.2.1, f.2.2.2.1, f.2.2.2.2.1, f.2.2.2.2.2⟩
  have tv : ∀ k, o.v.ownBlock = some k → k < w.heap.size := fun k hk => (World.ownsRow.lt h.votes k hk).2
  have tn : ∀ k, o.n.ownBlock = some k → k < w.heap.size := fun k hk => (World.ownsRow.lt h.next k hk).2
  have tm : ∀ k, o.m.ownBlock = some k → k < w.heap.size := fun k hk => (World.ownsRow.lt h.mtch k hk).2
  have ts : ∀ k, o.s.ownBlock = some k → k < w.heap.size := fun k hk => (World.ownsRow.lt h.said k hk).2
  have hap : Ap p { o with l := l' } := ⟨ne_upd h.ap.pl h.lo hu, h.ap.pv, h.ap.pn, h.ap.pm, h.ap.ps, dis.upd h.ap.lv tv hu, dis.upd h.ap.ln tn hu, dis.upd h.ap.lm tm hu, dis.upd h.ap.ls ts hu, h.ap.vn, h.ap.vm, h.ap.vs, h.ap.nm, h.ap.ns, h.ap.ms⟩
  have k1 := own_old h.log hg h.szB
  refine ⟨⟨hp.set 4 l', h.low, own_ne ho hs fun k hk e => hap.pl (by cases e; exact hk), own_ne (own_ne h.votes hg fun k hk e => h.ap.lv k e hk) hs fun k hk e => h.ap.pv (by cases e; exact hk), own_ne (own_ne h.next hg fun k hk e => h.ap.ln k e hk) hs fun k hk e => h.ap.pn (by cases e; exact hk), own_ne (own_ne h.mtch hg fun k hk e => h.ap.lm k e hk) hs fun k hk e => h.ap.pm (by cases e; exact hk), own_ne (own_ne h.said hg fun k hk e => h.ap.ls k e hk) hs fun k hk e => h.ap.ps (by cases e; exact hk), h.mc.keep fun b ⟨h1, h2, h3⟩ => ⟨⟨h1, Nat.lt_of_lt_of_le h2 (Nat.le_trans hg.size hs.size), hf b h2 h3⟩, (hs.block b (Nat.lt_of_lt_of_le h2 hg.size) (fun e => h3.1 (by cases e; rfl))).trans (hg.block b h2 fun e => (by exact (show o.l.ownBlock ≠ some b from h3.2.1) e.symm))⟩, hap⟩, ⟨k1.setCell h.low _, fun b hb f => ⟨hf b hb f, (hs.block b (Nat.lt_of_lt_of_le hb hg.size) (fun e => f.1 (by cases e; rfl))).trans (hg.block b hb fun e => (by exact (show o.l.ownBlock ≠ some b from f.2.1) e.symm))⟩⟩⟩
theorem WK.setV {v' : Value} {L : List Int} (h : WK B w p x ms o) (hg : w.grownBy w1 o.v.ownBlock) (ho : w1.ownsRow B 3 1 v' L.length (ints L)) (hu : Upd w.heap.size o.v v') :
    WK B (w1.setCell ⟨p, 8, none⟩ v') p { x with votes := L } ms { o with v := v' } ∧ Fr B p o w { o with v := v' } (w1.setCell ⟨p, 8, none⟩ v') := by
  have hs := grown_set w1 ⟨p, 8, none⟩ v'
  have hp : BK w1 p 46 (workC x o) := (hg.block p h.lo (fun e => h.ap.pv e.symm)).trans h.blk
  have hf : ∀ b, b < w.heap.size → Free p o b → Free p { o with v := v' } b := fun b hb f => ⟨f.1, f.2.1, ne_upd f.2.2.1 hb hu, f.2.2.2.1, f.2.2.2.2.1, f.2.2.2.2.2⟩
  have tl : ∀ k, o.l.ownBlock = some k → k < w.heap.size := fun k hk => (World.ownsRow.lt h.log k hk).2
  have tn : ∀ k, o.n.ownBlock = some k → k < w.heap.size := fun k hk => (World.ownsRow.lt h.next k hk).2
  have tm : ∀ k, o.m.ownBlock = some k → k < w.heap.size := fun k hk => (World.ownsRow.lt h.mtch k hk).2
  have ts : ∀ k, o.s.ownBlock = some k → k < w.heap.size := fun k hk => (World.ownsRow.lt h.said k hk).2
  have hap : Ap p { o with v := v' } := ⟨h.ap.pl, ne_upd h.ap.pv h.lo hu, h.ap.pn, h.ap.pm, h.ap.ps, (dis.upd h.ap.lv.symm tl hu).symm, h.ap.ln, h.ap.lm, h.ap.ls, dis.upd h.ap.vn tn hu, dis.upd h.ap.vm tm hu, dis.upd h.ap.vs ts hu, h.ap.nm, h.ap.ns, h.ap.ms⟩
  have k1 := own_old h.votes hg h.szB
  refine ⟨⟨hp.set 8 v', h.low, own_ne (own_ne h.log hg fun k hk e => h.ap.lv.symm k e hk) hs fun k hk e => h.ap.pl (by cases e; exact hk), own_ne ho hs fun k hk e => hap.pv (by cases e; exact hk), own_ne (own_ne h.next hg fun k hk e => h.ap.vn k e hk) hs fun k hk e => h.ap.pn (by cases e; exact hk), own_ne (own_ne h.mtch hg fun k hk e => h.ap.vm k e hk) hs fun k hk e => h.ap.pm (by cases e; exact hk), own_ne (own_ne h.said hg fun k hk e => h.ap.vs k e hk) hs fun k hk e => h.ap.ps (by cases e; exact hk), h.mc.keep fun b ⟨h1, h2, h3⟩ => ⟨⟨h1, Nat.lt_of_lt_of_le h2 (Nat.le_trans hg.size hs.size), hf b h2 h3⟩, (hs.block b (Nat.lt_of_lt_of_le h2 hg.size) (fun e => h3.1 (by cases e; rfl))).trans (hg.block b h2 fun e => (by exact (show o.v.ownBlock ≠ some b from h3.2.2.1) e.symm))⟩, hap⟩, ⟨k1.setCell h.low _, fun b hb f => ⟨hf b hb f, (hs.block b (Nat.lt_of_lt_of_le hb hg.size) (fun e => f.1 (by cases e; rfl))).trans (hg.block b hb fun e => (by exact (show o.v.ownBlock ≠ some b from f.2.2.1) e.symm))⟩⟩⟩
theorem WK.setN {n' : Value} {L : List Int} (h : WK B w p x ms o) (hg : w.grownBy w1 o.n.ownBlock) (ho : w1.ownsRow B 3 1 n' L.length (ints L)) (hu : Upd w.heap.size o.n n') :
    WK B (w1.setCell ⟨p, 9, none⟩ n') p { x with next := L } ms { o with n := n' } ∧ Fr B p o w { o with n := n' } (w1.setCell ⟨p, 9, none⟩ n') := by
  have hs := grown_set w1 ⟨p, 9, none⟩ n'
  have hp : BK w1 p 46 (workC x o) := (hg.block p h.lo (fun e => h.ap.pn e.symm)).trans h.blk
  have hf : ∀ b, b < w.heap.size → Free p o b → Free p { o with n := n' } b := fun b hb f => ⟨f.1, f.2.1, f.2.2.1, ne_upd f.2.2.2.1 hb hu, f.2.2.2.2.1, f.2.2.2.2.2⟩
  have tl : ∀ k, o.l.ownBlock = some k → k < w.heap.size := fun k hk => (World.ownsRow.lt h.log k hk).2
  have tv : ∀ k, o.v.ownBlock = some k → k < w.heap.size := fun k hk => (World.ownsRow.lt h.votes k hk).2
  have tm : ∀ k, o.m.ownBlock = some k → k < w.heap.size := fun k hk => (World.ownsRow.lt h.mtch k hk).2
  have ts : ∀ k, o.s.ownBlock = some k → k < w.heap.size := fun k hk => (World.ownsRow.lt h.said k hk).2
  have hap : Ap p { o with n := n' } := ⟨h.ap.pl, h.ap.pv, ne_upd h.ap.pn h.lo hu, h.ap.pm, h.ap.ps, h.ap.lv, (dis.upd h.ap.ln.symm tl hu).symm, h.ap.lm, h.ap.ls, (dis.upd h.ap.vn.symm tv hu).symm, h.ap.vm, h.ap.vs, dis.upd h.ap.nm tm hu, dis.upd h.ap.ns ts hu, h.ap.ms⟩
  have k1 := own_old h.next hg h.szB
  refine ⟨⟨hp.set 9 n', h.low, own_ne (own_ne h.log hg fun k hk e => h.ap.ln.symm k e hk) hs fun k hk e => h.ap.pl (by cases e; exact hk), own_ne (own_ne h.votes hg fun k hk e => h.ap.vn.symm k e hk) hs fun k hk e => h.ap.pv (by cases e; exact hk), own_ne ho hs fun k hk e => hap.pn (by cases e; exact hk), own_ne (own_ne h.mtch hg fun k hk e => h.ap.nm k e hk) hs fun k hk e => h.ap.pm (by cases e; exact hk), own_ne (own_ne h.said hg fun k hk e => h.ap.ns k e hk) hs fun k hk e => h.ap.ps (by cases e; exact hk), h.mc.keep fun b ⟨h1, h2, h3⟩ => ⟨⟨h1, Nat.lt_of_lt_of_le h2 (Nat.le_trans hg.size hs.size), hf b h2 h3⟩, (hs.block b (Nat.lt_of_lt_of_le h2 hg.size) (fun e => h3.1 (by cases e; rfl))).trans (hg.block b h2 fun e => (by exact (show o.n.ownBlock ≠ some b from h3.2.2.2.1) e.symm))⟩, hap⟩, ⟨k1.setCell h.low _, fun b hb f => ⟨hf b hb f, (hs.block b (Nat.lt_of_lt_of_le hb hg.size) (fun e => f.1 (by cases e; rfl))).trans (hg.block b hb fun e => (by exact (show o.n.ownBlock ≠ some b from f.2.2.2.1) e.symm))⟩⟩⟩
theorem WK.setM {m' : Value} {L : List Int} (h : WK B w p x ms o) (hg : w.grownBy w1 o.m.ownBlock) (ho : w1.ownsRow B 3 1 m' L.length (ints L)) (hu : Upd w.heap.size o.m m') :
    WK B (w1.setCell ⟨p, 10, none⟩ m') p { x with mtch := L } ms { o with m := m' } ∧ Fr B p o w { o with m := m' } (w1.setCell ⟨p, 10, none⟩ m') := by
  have hs := grown_set w1 ⟨p, 10, none⟩ m'
  have hp : BK w1 p 46 (workC x o) := (hg.block p h.lo (fun e => h.ap.pm e.symm)).trans h.blk
  have hf : ∀ b, b < w.heap.size → Free p o b → Free p { o with m := m' } b := fun b hb f => ⟨f.1, f.2.1, f.2.2.1, f.2.2.2.1, ne_upd f.2.2.2.2.1 hb hu, f.2.2.2.2.2⟩
  have tl : ∀ k, o.l.ownBlock = some k → k < w.heap.size := fun k hk => (World.ownsRow.lt h.log k hk).2
  have tv : ∀ k, o.v.ownBlock = some k → k < w.heap.size := fun k hk => (World.ownsRow.lt h.votes k hk).2
  have tn : ∀ k, o.n.ownBlock = some k → k < w.heap.size := fun k hk => (World.ownsRow.lt h.next k hk).2
  have ts : ∀ k, o.s.ownBlock = some k → k < w.heap.size := fun k hk => (World.ownsRow.lt h.said k hk).2
  have hap : Ap p { o with m := m' } := ⟨h.ap.pl, h.ap.pv, h.ap.pn, ne_upd h.ap.pm h.lo hu, h.ap.ps, h.ap.lv, h.ap.ln, (dis.upd h.ap.lm.symm tl hu).symm, h.ap.ls, h.ap.vn, (dis.upd h.ap.vm.symm tv hu).symm, h.ap.vs, (dis.upd h.ap.nm.symm tn hu).symm, h.ap.ns, dis.upd h.ap.ms ts hu⟩
  have k1 := own_old h.mtch hg h.szB
  refine ⟨⟨hp.set 10 m', h.low, own_ne (own_ne h.log hg fun k hk e => h.ap.lm.symm k e hk) hs fun k hk e => h.ap.pl (by cases e; exact hk), own_ne (own_ne h.votes hg fun k hk e => h.ap.vm.symm k e hk) hs fun k hk e => h.ap.pv (by cases e; exact hk), own_ne (own_ne h.next hg fun k hk e => h.ap.nm.symm k e hk) hs fun k hk e => h.ap.pn (by cases e; exact hk), own_ne ho hs fun k hk e => hap.pm (by cases e; exact hk), own_ne (own_ne h.said hg fun k hk e => h.ap.ms k e hk) hs fun k hk e => h.ap.ps (by cases e; exact hk), h.mc.keep fun b ⟨h1, h2, h3⟩ => ⟨⟨h1, Nat.lt_of_lt_of_le h2 (Nat.le_trans hg.size hs.size), hf b h2 h3⟩, (hs.block b (Nat.lt_of_lt_of_le h2 hg.size) (fun e => h3.1 (by cases e; rfl))).trans (hg.block b h2 fun e => (by exact (show o.m.ownBlock ≠ some b from h3.2.2.2.2.1) e.symm))⟩, hap⟩, ⟨k1.setCell h.low _, fun b hb f => ⟨hf b hb f, (hs.block b (Nat.lt_of_lt_of_le hb hg.size) (fun e => f.1 (by cases e; rfl))).trans (hg.block b hb fun e => (by exact (show o.m.ownBlock ≠ some b from f.2.2.2.2.1) e.symm))⟩⟩⟩
theorem WK.setS {s' : Value} {ks : List Rf.Msg} {ds : List Value} (h : WK B w p x ms o) (hg : w.grownBy w1 o.s.ownBlock) (ho : w1.ownsRow B 49 9 s' ks.length ds) (hu : Upd w.heap.size o.s s') (hm : MC (fun b => B ≤ b ∧ b < w.heap.size ∧ Free p o b) w ks ds) :
    WK B (w1.setCell ⟨p, 11, none⟩ s') p x ks { o with s := s', cs := ds } ∧ Fr B p o w { o with s := s', cs := ds } (w1.setCell ⟨p, 11, none⟩ s') := by
  have hs := grown_set w1 ⟨p, 11, none⟩ s'
  have hp : BK w1 p 46 (workC x o) := (hg.block p h.lo (fun e => h.ap.ps e.symm)).trans h.blk
  have hf : ∀ b, b < w.heap.size → Free p o b → Free p { o with s := s', cs := ds } b := fun b hb f => ⟨f.1, f.2.1, f.2.2.1, f.2.2.2.1, f.2.2.2.2.1, ne_upd f.2.2.2.2.2 hb hu⟩
  have tl : ∀ k, o.l.ownBlock = some k → k < w.heap.size := fun k hk => (World.ownsRow.lt h.log k hk).2
  have tv : ∀ k, o.v.ownBlock = some k → k < w.heap.size := fun k hk => (World.ownsRow.lt h.votes k hk).2
  have tn : ∀ k, o.n.ownBlock = some k → k < w.heap.size := fun k hk => (World.ownsRow.lt h.next k hk).2
  have tm : ∀ k, o.m.ownBlock = some k → k < w.heap.size := fun k hk => (World.ownsRow.lt h.mtch k hk).2
  have hap : Ap p { o with s := s', cs := ds } := ⟨h.ap.pl, h.ap.pv, h.ap.pn, h.ap.pm, ne_upd h.ap.ps h.lo hu, h.ap.lv, h.ap.ln, h.ap.lm, (dis.upd h.ap.ls.symm tl hu).symm, h.ap.vn, h.ap.vm, (dis.upd h.ap.vs.symm tv hu).symm, h.ap.nm, (dis.upd h.ap.ns.symm tn hu).symm, (dis.upd h.ap.ms.symm tm hu).symm⟩
  have k1 := own_old h.said hg h.szB
  refine ⟨⟨hp.set 11 s', h.low, own_ne (own_ne h.log hg fun k hk e => h.ap.ls.symm k e hk) hs fun k hk e => h.ap.pl (by cases e; exact hk), own_ne (own_ne h.votes hg fun k hk e => h.ap.vs.symm k e hk) hs fun k hk e => h.ap.pv (by cases e; exact hk), own_ne (own_ne h.next hg fun k hk e => h.ap.ns.symm k e hk) hs fun k hk e => h.ap.pn (by cases e; exact hk), own_ne (own_ne h.mtch hg fun k hk e => h.ap.ms.symm k e hk) hs fun k hk e => h.ap.pm (by cases e; exact hk), own_ne ho hs fun k hk e => hap.ps (by cases e; exact hk), hm.keep fun b ⟨h1, h2, h3⟩ => ⟨⟨h1, Nat.lt_of_lt_of_le h2 (Nat.le_trans hg.size hs.size), hf b h2 h3⟩, (hs.block b (Nat.lt_of_lt_of_le h2 hg.size) (fun e => h3.1 (by cases e; rfl))).trans (hg.block b h2 fun e => (by exact (show o.s.ownBlock ≠ some b from h3.2.2.2.2.2) e.symm))⟩, hap⟩, ⟨k1.setCell h.low _, fun b hb f => ⟨hf b hb f, (hs.block b (Nat.lt_of_lt_of_le hb hg.size) (fun e => f.1 (by cases e; rfl))).trans (hg.block b hb fun e => (by exact (show o.s.ownBlock ≠ some b from f.2.2.2.2.2) e.symm))⟩⟩⟩
theorem WK.inN {L : List Int} (h : WK B w p x ms o) (hg : w.grownBy w1 o.n.ownBlock) (ho : w1.ownsRow B 3 1 o.n L.length (ints L)) : WK B w1 p { x with next := L } ms o ∧ Fr B p o w o w1 := by
  refine ⟨⟨(hg.block p h.lo (fun e => h.ap.pn e.symm)).trans h.blk, h.low, own_ne h.log hg fun k hk e => h.ap.ln.symm k e hk, own_ne h.votes hg fun k hk e => h.ap.vn.symm k e hk, ho, own_ne h.mtch hg fun k hk e => h.ap.nm k e hk, own_ne h.said hg fun k hk e => h.ap.ns k e hk, h.mc.keep fun b ⟨h1, h2, h3⟩ => ⟨⟨h1, Nat.lt_of_lt_of_le h2 hg.size, h3⟩, hg.block b h2 fun e => (by exact (show o.n.ownBlock ≠ some b from h3.2.2.2.1) e.symm)⟩, h.ap⟩, ⟨own_old h.next hg h.szB, fun b hb f => ⟨f, hg.block b hb fun e => (by exact (show o.n.ownBlock ≠ some b from f.2.2.2.1) e.symm)⟩⟩⟩
theorem WK.inM {L : List Int} (h : WK B w p x ms o) (hg : w.grownBy w1 o.m.ownBlock) (ho : w1.ownsRow B 3 1 o.m L.length (ints L)) : WK B w1 p { x with mtch := L } ms o ∧ Fr B p o w o w1 := by
  refine ⟨⟨(hg.block p h.lo (fun e => h.ap.pm e.symm)).trans h.blk, h.low, own_ne h.log hg fun k hk e => h.ap.lm.symm k e hk, own_ne h.votes hg fun k hk e => h.ap.vm.symm k e hk, own_ne h.next hg fun k hk e => h.ap.nm.symm k e hk, ho, own_ne h.said hg fun k hk e => h.ap.ms k e hk, h.mc.keep fun b ⟨h1, h2, h3⟩ => ⟨⟨h1, Nat.lt_of_lt_of_le h2 hg.size, h3⟩, hg.block b h2 fun e => (by exact (show o.m.ownBlock ≠ some b from h3.2.2.2.2.1) e.symm)⟩, h.ap⟩, ⟨own_old h.mtch hg h.szB, fun b hb f => ⟨f, hg.block b hb fun e => (by exact (show o.m.ownBlock ≠ some b from f.2.2.2.2.1) e.symm)⟩⟩⟩
end

/-- what can be read of it -/
theorem WK.tell {B : Nat} {w : World} {p : Nat} {x : Rf.Node} {ms : List Rf.Msg} {o : Own} (h : WK B w p x ms o) :
    ∃ la LL lc va VL vc na NL nc ma ML mc sa SL sc, Hid (o.l = .slice la LL lc ∧ o.v = .slice va VL vc ∧ o.n = .slice na NL nc ∧ o.m = .slice ma ML mc ∧ o.s = .slice sa SL sc) ∧ Hid (LL = x.log.length) ∧ Hid (VL = x.votes.length) ∧ Hid (NL = x.next.length) ∧ Hid (ML = x.mtch.length) ∧ Hid (SL = ms.length) ∧ (LL ≤ lc ∧ VL ≤ vc ∧ NL ≤ nc ∧ ML ≤ mc) ∧
    (w.cell? ⟨p, 0, none⟩ = some (.int .i64 x.id) ∧ w.cell? ⟨p, 1, none⟩ = some (.int .i64 x.n) ∧ w.cell? ⟨p, 2, none⟩ = some (.int .i64 x.term) ∧ w.cell? ⟨p, 3, none⟩ = some (.int .i64 x.vote) ∧ w.cell? ⟨p, 4, none⟩ = some (.slice la LL lc) ∧ w.cell? ⟨p, 5, none⟩ = some (.int .i64 x.commit) ∧ w.cell? ⟨p, 6, none⟩ = some (.int .i64 x.role) ∧ w.cell? ⟨p, 7, none⟩ = some (.int .i64 x.boss) ∧ w.cell? ⟨p, 8, none⟩ = some (.slice va VL vc) ∧ w.cell? ⟨p, 9, none⟩ = some (.slice na NL nc) ∧ w.cell? ⟨p, 10, none⟩ = some (.slice ma ML mc) ∧ w.cell? ⟨p, 11, none⟩ = some (.slice sa SL sc)) ∧
    (w.frozen? ⟨p, 0, none⟩ = false ∧ w.frozen? ⟨p, 1, none⟩ = false ∧ w.frozen? ⟨p, 2, none⟩ = false ∧ w.frozen? ⟨p, 3, none⟩ = false ∧ w.frozen? ⟨p, 4, none⟩ = false ∧ w.frozen? ⟨p, 5, none⟩ = false ∧ w.frozen? ⟨p, 6, none⟩ = false ∧ w.frozen? ⟨p, 7, none⟩ = false ∧ w.frozen? ⟨p, 8, none⟩ = false ∧ w.frozen? ⟨p, 9, none⟩ = false ∧ w.frozen? ⟨p, 10, none⟩ = false ∧ w.frozen? ⟨p, 11, none⟩ = false) := by
  obtain ⟨la, LL, lc, e1, q1, r1, _⟩ := SC.shp (SC.own h.log)
  obtain ⟨va, VL, vc, e2, q2, r2, _⟩ := SC.shp (SC.own h.votes)
  obtain ⟨na, NL, nc, e3, q3, r3, _⟩ := SC.shp (SC.own h.next)
  obtain ⟨ma, ML, mc, e4, q4, r4, _⟩ := SC.shp (SC.own h.mtch)
  obtain ⟨sa, SL, sc, e5, q5, _, _⟩ := SC.shp (SC.own h.said)
  have b := h.blk
  rw [workC, e1, e2, e3, e4, e5] at b
  exact ⟨la, LL, lc, va, VL, vc, na, NL, nc, ma, ML, mc, sa, SL, sc, hide ⟨e1, e2, e3, e4, e5⟩, q1, q2, q3, q4, q5, ⟨r1, r2, r3, r4⟩, ⟨b.at rfl, b.at rfl, b.at rfl, b.at rfl, b.at rfl, b.at rfl, b.at rfl, b.at rfl, b.at rfl, b.at rfl, b.at rfl, b.at rfl⟩, ⟨b.thaw _, b.thaw _, b.thaw _, b.thaw _, b.thaw _, b.thaw _, b.thaw _, b.thaw _, b.thaw _, b.thaw _, b.thaw _, b.thaw _⟩⟩
/-- a new block is no part of it -/
theorem WK.newFree {B : Nat} {w : World} {p : Nat} {x : Rf.Node} {ms : List Rf.Msg} {o : Own} (h : WK B w p x ms o) {b : Nat} (hb : w.heap.size ≤ b) : Free p o b := by
  refine ⟨by have := h.lo; omega, fun e => ?_, fun e => ?_, fun e => ?_, fun e => ?_, fun e => ?_⟩
  · have := (World.ownsRow.lt h.log _ e).2; omega
  · have := (World.ownsRow.lt h.votes _ e).2; omega
  · have := (World.ownsRow.lt h.next _ e).2; omega
  · have := (World.ownsRow.lt h.mtch _ e).2; omega
  · have := (World.ownsRow.lt h.said _ e).2; omega
/-- what was there ahead of it is no part of it -/
theorem WK.oldFree {B : Nat} {w : World} {p : Nat} {x : Rf.Node} {ms : List Rf.Msg} {o : Own} (h : WK B w p x ms o) {b : Nat} (hb : b < B) : Free p o b := by
  refine ⟨by have := h.low; omega, fun e => ?_, fun e => ?_, fun e => ?_, fun e => ?_, fun e => ?_⟩
  · have := (World.ownsRow.lt h.log _ e).1; omega
  · have := (World.ownsRow.lt h.votes _ e).1; omega
  · have := (World.ownsRow.lt h.next _ e).1; omega
  · have := (World.ownsRow.lt h.mtch _ e).1; omega
  · have := (World.ownsRow.lt h.said _ e).1; omega
/-- what is told in the end -/
theorem WK.node {B : Nat} {w : World} {p : Nat} {x : Rf.Node} {ms : List Rf.Msg} {o : Own} (h : WK B w p x ms o) : NV (fun b => B ≤ b ∧ b < w.heap.size) w #[.int .i64 x.id, .int .i64 x.n, .int .i64 x.term, .int .i64 x.vote, o.l, .int .i64 x.commit, .int .i64 x.role, .int .i64 x.boss, o.v, o.n, o.m] x :=
  ⟨_, _, _, _, rfl, SC.own' h.log, SC.own' h.votes, SC.own' h.next, SC.own' h.mtch⟩
theorem WK.msgs {B : Nat} {w : World} {p : Nat} {x : Rf.Node} {ms : List Rf.Msg} {o : Own} (h : WK B w p x ms o) : MV (fun b => B ≤ b ∧ b < w.heap.size) w o.s ms := ⟨o.cs, SC.own' h.said, h.mc.keep fun _ ⟨h1, h2, _⟩ => ⟨⟨h1, h2⟩, rfl⟩⟩

end Go.Proofs.Ytiplnegiphhdlaa
