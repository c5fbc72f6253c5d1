/- A node of a world at work; others go behind a row. -/
import Derived.Test.YtneepoaimbnneaaNA
import Derived.Test.YtneepoaimbnneaaMJ
import Derived.ArgAppend
import Derived.Test.YtneepoaimbnneaaRfPG
import Derived.Test.YtneepoaimbnneaaMC
import Derived.Lib.SliceRun
import Derived.Deep.RegionLaw
namespace Go.Proofs.Ytneepoaimbnneaa
open Go.RowKit

theorem frozen_of_block {w w' : World} {a : Addr} (h : w'.heap[a.block]? = w.heap[a.block]?) : w'.frozen? a = w.frozen? a := by
  unfold World.frozen?
  rw [h]
/-- a slice that owns its row of n elements of k cells -/
def RO (B : Nat) (w : World) (v : Value) (k n : Nat) (xs : List Value) : Prop :=
  xs.length = n * k ∧ ((v = .slice none 0 0 ∧ n = 0) ∨ ∃ g off cap, v = .slice (some ⟨g, off, none⟩) n cap ∧ B ≤ g ∧ g < w.heap.size ∧ n ≤ cap ∧ cap ≤ 9223372036854775807 ∧ (∀ j, j < cap * k → (w.cell? ⟨g, off + j, none⟩).isSome = true ∧ w.frozen? ⟨g, off + j, none⟩ = false) ∧ ∀ j u, xs[j]? = some u → w.cell? ⟨g, off + j, none⟩ = some u)
theorem RO.nil (B : Nat) (w : World) (k : Nat) : RO B w (.slice none 0 0) k 0 [] := ⟨by simp, .inl ⟨rfl, rfl⟩⟩
theorem RO.lt {B : Nat} {w : World} {v : Value} {k n : Nat} {xs : List Value} (h : RO B w v k n xs) : ∀ b, v.ownBlock = some b → B ≤ b ∧ b < w.heap.size := by
  intro b hb
  rcases h.2 with ⟨rfl, _⟩ | ⟨g, off, cap, rfl, h1, h2, _⟩
  · cases hb
  · cases hb; exact ⟨h1, h2⟩
theorem RO.keep {B : Nat} {w w' : World} {v : Value} {k n : Nat} {xs : List Value} (h : RO B w v k n xs) (hb : ∀ b, v.ownBlock = some b → b < w'.heap.size ∧ w'.heap[b]? = w.heap[b]?) : RO B w' v k n xs := by
  refine ⟨h.1, ?_⟩
  rcases h.2 with h' | ⟨g, off, cap, rfl, h1, h2, h3, h4, h5, h6⟩
  · exact .inl h'
  · obtain ⟨q1, q2⟩ := hb g rfl
    refine .inr ⟨g, off, cap, rfl, h1, q1, h3, h4, fun j hj => ?_, fun j u hj => ?_⟩
    · rw [World.cell?_of_block (w := w) (a := ⟨g, off + j, none⟩) q2, frozen_of_block (a := ⟨g, off + j, none⟩) q2]
      exact h5 j hj
    · rw [World.cell?_of_block (w := w) (a := ⟨g, off + j, none⟩) q2]
      exact h6 j u hj
theorem RO.below {B : Nat} {w w' : World} {v : Value} {k n : Nat} {xs : List Value} (h : RO B w v k n xs) (hb : Below w.heap.size w w') : RO B w' v k n xs :=
  h.keep fun b hk => ⟨Nat.lt_of_lt_of_le (h.lt b hk).2 hb.size, hb.block b (h.lt b hk).2⟩
theorem RO.ne {B : Nat} {w w' : World} {v : Value} {k n : Nat} {xs : List Value} {r : Option Nat} (h : RO B w v k n xs) (hg : w.grownBy w' r) (hd : ∀ b, v.ownBlock = some b → r ≠ some b) : RO B w' v k n xs :=
  h.keep fun b hk => ⟨Nat.lt_of_lt_of_le (h.lt b hk).2 hg.size, hg.block b (h.lt b hk).2 fun e => hd b hk e.symm⟩
theorem RO.of {B : Nat} {w : World} {e : TypeId} {v : Value} {k n : Nat} {xs : List Value} (h : w.ownsRow B e k v n xs) : RO B w v k n xs := by
  have hc := fun g hg => World.ownsRow.cells (w := w) h (g := g) hg
  have hl := h.1
  rcases h.2 with ⟨rfl, rfl⟩ | ⟨g, cap, cur, rfl, hb, hg, hn, hm, hs, _⟩
  · exact ⟨hl, .inl ⟨rfl, rfl⟩⟩
  · refine ⟨hl, .inr ⟨g, 0, cap, rfl, hb, lt_of_block hg, hn, by unfold maxLen at hm; omega, fun j hj => ?_, fun j u hj => ?_⟩⟩
    · have hj' : j < cur.size := by omega
      simp [World.cell?, World.frozen?, hg, hj']
    · have := hc g rfl j u hj
      rw [Addr.add_lit] at this
      exact this
theorem RO.sc {B : Nat} {w : World} {v : Value} {k n : Nat} {xs : List Value} (h : RO B w v k n xs) : SC (fun b => v.ownBlock = some b) w v k n xs := by
  refine ⟨h.1, ?_⟩
  rcases h.2 with ⟨rfl, rfl⟩ | ⟨g, off, cap, rfl, h1, h2, h3, h4, h5, h6⟩
  · exact ⟨none, 0, rfl, Nat.le_refl _, by omega, fun h => absurd rfl h⟩
  · exact ⟨_, cap, rfl, h3, h4, fun _ => ⟨g, off, rfl, rfl, h6⟩⟩
theorem RO.mono {B B' : Nat} {w : World} {v : Value} {k n : Nat} {xs : List Value} (h : RO B w v k n xs) (hb : B' ≤ B) : RO B' w v k n xs := by
  refine ⟨h.1, ?_⟩
  rcases h.2 with h' | ⟨g, off, cap, rfl, h1, r⟩
  · exact .inl h'
  · exact .inr ⟨g, off, cap, rfl, Nat.le_trans hb h1, r⟩
/-- its last ones -/
theorem RO.drop {B : Nat} {w : World} {g off cap k n d : Nat} {xs : List Value} (h : RO B w (.slice (some ⟨g, off, none⟩) n cap) k n xs) (hd : d ≤ n) : RO B w (.slice (some ⟨g, off + d * k, none⟩) (n - d) (cap - d)) k (n - d) (xs.drop (d * k)) := by
  rcases h.2 with ⟨e, _⟩ | ⟨g', off', cap', e, h1, h2, h3, h4, h5, h6⟩
  · cases e
  · cases e
    refine ⟨by rw [List.length_drop, h.1, Nat.sub_mul], .inr ⟨g, off + d * k, cap - d, rfl, h1, h2, by omega, by omega, fun j hj => ?_, fun j u hj => ?_⟩⟩
    · rw [Nat.add_assoc]
      refine h5 _ ?_
      have hd' : d ≤ cap := by omega
      have : (cap - d) * k + d * k = cap * k := by rw [← Nat.add_mul, Nat.sub_add_cancel hd']
      omega
    · rw [List.getElem?_drop] at hj
      rw [Nat.add_assoc]
      exact h6 _ u hj
theorem grown_setCells (w : World) (g : Nat) : ∀ (vs : List Value) (o : Nat), w.grownBy (w.setCells g o vs) (some g) := by
  intro vs
  induction vs generalizing w with
  | nil => intro o; exact World.grownBy.refl w _
  | cons u vs ih => intro o; exact grown_trans (grown_set w ⟨g, o, none⟩ u) (ih _ _)
/-- cells are stored in it -/
theorem setCells_ro {B : Nat} {w : World} {g off cap n k : Nat} {xs : List Value} (h : RO B w (.slice (some ⟨g, off, none⟩) n cap) k n xs) (o : Nat) (vs : List Value) (n' : Nat) (ys : List Value) (hy : ys.length = n' * k) (hn' : n' ≤ cap)
    (hc : ∀ j u, ys[j]? = some u → (w.setCells g o vs).cell? ⟨g, off + j, none⟩ = some u) : RO B (w.setCells g o vs) (.slice (some ⟨g, off, none⟩) n' cap) k n' ys := by
  rcases h.2 with ⟨e, _⟩ | ⟨g', off', cap', e, h1, h2, h3, h4, h5, h6⟩
  · cases e
  · cases e
    refine ⟨hy, .inr ⟨g, off, cap, rfl, h1, Nat.lt_of_lt_of_le h2 (grown_setCells w g vs o).size, hn', h4, fun j hj => ?_, hc⟩⟩
    exact ⟨World.isSome_setCells _ _ _ _ _ (h5 j hj).1, by rw [World.frozen?_setCells]; exact (h5 j hj).2⟩
theorem RO.parts {B : Nat} {w : World} {g off cap n k : Nat} {xs : List Value} (h : RO B w (.slice (some ⟨g, off, none⟩) n cap) k n xs) : B ≤ g ∧ g < w.heap.size ∧ n ≤ cap ∧ cap ≤ 9223372036854775807 ∧ (∀ t, t < cap * k → (w.cell? ⟨g, off + t, none⟩).isSome = true ∧ w.frozen? ⟨g, off + t, none⟩ = false) ∧ ∀ t u, xs[t]? = some u → w.cell? ⟨g, off + t, none⟩ = some u := by
  rcases h.2 with ⟨e, _⟩ | ⟨g', off', cap', e, h1, h2, h3, h4, h5, h6⟩
  · cases e
  · cases e; exact ⟨h1, h2, h3, h4, h5, h6⟩
/-- some of its cells are other ones -/
theorem RO.put {B : Nat} {w : World} {g off cap n k : Nat} {xs : List Value} (h : RO B w (.slice (some ⟨g, off, none⟩) n cap) k n xs) (o : Nat) (vs : List Value) (ho : o + vs.length ≤ n * k) : RO B (w.setCells g (off + o) vs) (.slice (some ⟨g, off, none⟩) n cap) k n (xs.take o ++ vs ++ xs.drop (o + vs.length)) := by
  obtain ⟨h1, h2, h3, h4, h5, h6⟩ := h.parts
  have hl := h.1
  have hcap : n * k ≤ cap * k := Nat.mul_le_mul_right _ h3
  have htl : (xs.take o).length = o := by rw [List.length_take]; omega
  refine setCells_ro h _ _ _ _ (by rw [List.length_append, List.length_append, List.length_drop, htl]; omega) h3 fun t u ht => ?_
  rcases Nat.lt_or_ge t o with q | q
  · rw [List.append_assoc, List.getElem?_append_left (by omega), List.getElem?_take_of_lt q] at ht
    rw [World.cell?_setCells_out _ _ _ _ _ (fun _ _ => .inl (by simp only; omega))]
    exact h6 t u ht
  · rcases Nat.lt_or_ge t (o + vs.length) with q' | q'
    · rw [List.getElem?_append_left (by rw [List.length_append]; omega), List.getElem?_append_right (by omega), htl] at ht
      obtain ⟨q2, q3⟩ := List.getElem?_eq_some_iff.1 ht
      have e1 := World.cell?_setCells_in g vs (off + o) w (fun t ht => by rw [Nat.add_assoc]; exact (h5 _ (by omega)).1) (t - o) q2
      have e2 : off + t = off + o + (t - o) := by omega
      rw [e2, e1, q3]
    · rw [List.getElem?_append_right (by rw [List.length_append]; omega), List.length_append, htl, List.getElem?_drop] at ht
      rw [World.cell?_setCells_out _ _ _ _ _ (fun _ _ => .inr (by simp only; omega))]
      refine h6 t u ?_
      rw [← ht]
      congr 1
      omega
/-- others go behind them -/
theorem run_append_ro {P : Nat → Prop} {w : World} (B : Nat) (t ty e : TypeId) (i : TypeInfo) (z : Value) (size bytes : Nat) (ht : Try.prog.underlying t = some (.slice e)) (hi : Try.prog.info? e = some i) (hz : i.zero = some z)
    (hsize : i.size = size) (hby : i.bytes = bytes) (hzs : z.cells.size = size) (hsz : 0 < size) (v x : Value) (n m : Nat) (xs cs : List Value) (hown : RO B w v size n xs) (hx : SC P w x size m cs) (h1 : ∀ u ∈ cs, u.oneCell' = true)
    (h63 : n + m ≤ maxLen) (hbytes : (n + m) * bytes ≤ 140737488355328) (hB : B ≤ w.heap.size)
    (hno : ∀ c, (Builtin.append_ #[t, t] ty #[v, .slice none 0 c]).run Try.prog w = .ok v w) :
    ∃ v' w', (Builtin.append_ #[t, t] ty #[v, x]).run Try.prog w = .ok v' w' ∧ RO B w' v' size (n + m) (xs ++ cs) ∧ w.grownBy w' v.ownBlock ∧ Upd w.heap.size v v' := by
  obtain ⟨hl, a, cap, rfl, _, _, hc⟩ := hx
  cases a with
  | none =>
    have hm : m = 0 := by
      rcases Nat.eq_zero_or_pos m with h | h
      · exact h
      · obtain ⟨b, off, e1, _⟩ := hc (by omega)
        cases e1
    subst hm
    obtain rfl : cs = [] := List.eq_nil_of_length_eq_zero (by simpa using hl)
    exact ⟨v, w, hno cap, by simpa using hown, World.grownBy.refl w _, Upd.refl _ _⟩
  | some a =>
    have hnews : ∀ j u, cs[j]? = some u → w.cell? (a.add j) = some u := by
      intro j u hj
      have hm : m ≠ 0 := by
        intro h
        subst h
        obtain rfl : cs = [] := List.eq_nil_of_length_eq_zero (by simpa using hl)
        simp at hj
      obtain ⟨b, off, e1, _, e3⟩ := hc hm
      cases e1
      rw [Addr.add_lit]
      exact e3 j u hj
    rcases hown.2 with ⟨rfl, rfl⟩ | ⟨g, off, cap', rfl, k1, k2, k3, k4, k5, k6⟩
    · obtain rfl : xs = [] := List.eq_nil_of_length_eq_zero (by simpa using hown.1)
      obtain ⟨v', w', r1, r2, r3, _, r5⟩ := run_append_own_at (P := Try.prog) w B t ty e i z size bytes ht hi hz hsize hby hzs hsz (.slice none 0 0) 0 [] (World.ownsRow_nil w _ e size) a m cap cs hl hnews h1 h63 hbytes hB
      exact ⟨v', w', r1, RO.of r2, r3, Upd.at r5⟩
    · by_cases hr : n + m ≤ cap'
      · subst hsize
        have hq : n * i.size + m * i.size ≤ cap' * i.size := by rw [← Nat.add_mul]; exact Nat.mul_le_mul_right _ hr
        have hs : ∀ j, j < cs.length → (w.cell? ⟨g, off + n * i.size + j, none⟩).isSome = true ∧ w.frozen? ⟨g, off + n * i.size + j, none⟩ = false := fun j hj => by
          rw [Nat.add_assoc]
          exact k5 _ (by omega)
        have hrun := run_append_room_cells (P := Try.prog) w t ty e i ht hi g off n cap' a m cap cs hl hnews h1 hr (fun j hj => (hs j hj).1) (fun j hj => (hs j hj).2)
        have hg := grown_setCells w g cs (off + n * i.size)
        refine ⟨_, _, hrun, ⟨by rw [List.length_append, hown.1, hl, Nat.add_mul], .inr ⟨g, off, cap', rfl, k1, Nat.lt_of_lt_of_le k2 hg.size, hr, k4, fun j hj => ?_, fun j u hj => ?_⟩⟩, hg, .inl rfl⟩
        · exact ⟨World.isSome_setCells _ _ _ _ _ (k5 j hj).1, by rw [World.frozen?_setCells]; exact (k5 j hj).2⟩
        · rcases Nat.lt_or_ge j xs.length with q | q
          · rw [List.getElem?_append_left q] at hj
            rw [World.cell?_setCells_out _ _ _ _ _ (fun _ _ => .inl (by have := hown.1; simp only; omega))]
            exact k6 j u hj
          · rw [List.getElem?_append_right q] at hj
            obtain ⟨q2, q3⟩ := List.getElem?_eq_some_iff.1 hj
            have e1 := World.cell?_setCells_in g cs (off + n * i.size) w (fun t ht => (hs t ht).1) (j - xs.length) q2
            have e2 : off + j = off + n * i.size + (j - xs.length) := by have := hown.1; omega
            rw [e2, e1, q3]
      · obtain ⟨v', w', r1, r2, r3⟩ := run_append_arg_grows (P := Try.prog) w t ty e i z size bytes ht hi hz hsize hby hzs hsz ⟨g, off, none⟩ n cap' xs hown.1 (fun j u hj => by rw [Addr.add_lit]; exact k6 j u hj) a m cap cs hl hnews (by omega) h63 hbytes
        exact ⟨v', w', r1, (RO.of r2).mono hB, ⟨r3.os, r3.tape, r3.output, r3.size, fun k hk _ => r3.block k hk (by simp)⟩, .inr fun k hk => (World.ownsRow.lt r2 k hk).1⟩

end Go.Proofs.Ytneepoaimbnneaa

namespace Go.Proofs.Ytneepoaimbnneaa
open Go.RowKit
variable {A : Nat → Prop}

/-- a world that is told -/
def WV (P : Nat → Prop) (w : World) (v : Array Value) (W : Rf.Wd) : Prop := ∃ nv tv, v = #[nv, tv] ∧ NsV P w nv W.nodes ∧ MV P w tv W.net
theorem WV.keep {P Q : Nat → Prop} {w w' : World} {v : Array Value} {W : Rf.Wd} (hb : ∀ b, P b → Q b ∧ w'.heap[b]? = w.heap[b]?) (h : WV P w v W) : WV Q w' v W := by
  obtain ⟨nv, tv, h1, h2, h3⟩ := h
  exact ⟨nv, tv, h1, h2.keep hb, h3.keep hb⟩
abbrev Wv (A : Nat → Prop) (w : World) (v : Array Value) (W : Rf.Wd) : Prop := WV (fun b => b < w.heap.size ∧ A b) w v W
theorem Wv.below {w w' : World} {v : Array Value} {W : Rf.Wd} (h : Wv A w v W) (hb : Below w.heap.size w w') : Wv A w' v W := h.keep fun b hp => ⟨⟨Nat.lt_of_lt_of_le hp.1 hb.size, hp.2⟩, hb.block b hp.1⟩

/-- what is no part of it -/
def Fp (A : Nat → Prop) (w : World) (p : Nat) (nv tv : Value) (b : Nat) : Prop := b < w.heap.size ∧ b ≠ p ∧ nv.ownBlock ≠ some b ∧ tv.ownBlock ≠ some b ∧ A b
/-- a world at work -/
structure CW (A : Nat → Prop) (B : Nat) (w : World) (p : Nat) (W : Rf.Wd) (nv tv : Value) (nc tc : List Value) : Prop where
  blk : BK w p 56 #[nv, tv]
  low : B ≤ p
  nodes : RO B w nv 11 W.nodes.length nc
  net : RO B w tv 9 W.net.length tc
  nC : NC (Fp A w p nv tv) w W.nodes nc
  tC : MC (Fp A w p nv tv) w W.net tc
  pn : nv.ownBlock ≠ some p
  pt : tv.ownBlock ≠ some p
  nt : dis nv tv
  hA : ∀ b, B ≤ b → A b
section
variable {B : Nat} {w w1 : World} {p : Nat} {W : Rf.Wd} {nv tv : Value} {nc tc : List Value}
theorem CW.lo (h : CW A B w p W nv tv nc tc) : p < w.heap.size := h.blk.low
theorem CW.szB (h : CW A B w p W nv tv nc tc) : B ≤ w.heap.size := Nat.le_trans h.low (Nat.le_of_lt h.lo)
theorem Fp.new (h : CW A B w p W nv tv nc tc) {b : Nat} (hb : w.heap.size ≤ b) (hl : b < w1.heap.size) : Fp A w1 p nv tv b := by
  refine ⟨hl, by have := h.lo; omega, fun e => ?_, fun e => ?_, h.hA b (by have := h.szB; omega)⟩
  · have := (h.nodes.lt _ e).2; omega
  · have := (h.net.lt _ e).2; omega
/-- the world has grown -/
theorem CW.below (h : CW A B w p W nv tv nc tc) (hb : Below w.heap.size w w1) : CW A B w1 p W nv tv nc tc := by
  have hk : ∀ b, Fp A w p nv tv b → Fp A w1 p nv tv b ∧ w1.heap[b]? = w.heap[b]? := fun b hp => ⟨⟨Nat.lt_of_lt_of_le hp.1 hb.size, hp.2⟩, hb.block b hp.1⟩
  exact ⟨h.blk.keep hb, h.low, h.nodes.below hb, h.net.below hb, h.nC.keep hk, h.tC.keep hk, h.pn, h.pt, h.nt, h.hA⟩
/-- the row of nodes is another one -/
theorem CW.inNodes {N : List Rf.Node} {nc' : List Value} (h : CW A B w p W nv tv nc tc) (hg : w.grownBy w1 nv.ownBlock) (ho : RO B w1 nv 11 N.length nc') (hn : NC (Fp A w p nv tv) w N nc') : CW A B w1 p { W with nodes := N } nv tv nc' tc := by
  have hk : ∀ b, Fp A w p nv tv b → Fp A w1 p nv tv b ∧ w1.heap[b]? = w.heap[b]? := fun b hp => ⟨⟨Nat.lt_of_lt_of_le hp.1 hg.size, hp.2⟩, hg.block b hp.1 fun e => hp.2.2.1 e.symm⟩
  exact ⟨(hg.block p h.lo fun e => h.pn e.symm).trans h.blk, h.low, ho, h.net.ne hg fun b hb e => h.nt b e hb, hn.keep hk, h.tC.keep hk, h.pn, h.pt, h.nt, h.hA⟩
/-- the row of messages is another one -/
theorem CW.setNet {T : List Rf.Msg} {tc' : List Value} {tv' : Value} (h : CW A B w p W nv tv nc tc) (hg : w.grownBy w1 tv.ownBlock) (ho : RO B w1 tv' 9 T.length tc') (hu : Upd w.heap.size tv tv') (hn : MC (Fp A w p nv tv) w T tc') : CW A B (w1.setCell ⟨p, 1, none⟩ tv') p { W with net := T } nv tv' nc tc' := by
  have hs := grown_set w1 ⟨p, 1, none⟩ tv'
  have hsz : (w1.setCell ⟨p, 1, none⟩ tv').heap.size = w1.heap.size := by simp [World.setCell]
  have hk : ∀ b, Fp A w p nv tv b → Fp A (w1.setCell ⟨p, 1, none⟩ tv') p nv tv' b ∧ (w1.setCell ⟨p, 1, none⟩ tv').heap[b]? = w.heap[b]? := by
    intro b hp
    have q1 := hg.block b hp.1 fun e => hp.2.2.2.1 e.symm
    have q2 := hs.block b (Nat.lt_of_lt_of_le hp.1 hg.size) fun e => hp.2.1 (by cases e; rfl)
    exact ⟨⟨by rw [hsz]; exact Nat.lt_of_lt_of_le hp.1 hg.size, hp.2.1, hp.2.2.1, ne_upd hp.2.2.2.1 hp.1 hu, hp.2.2.2.2⟩, q2.trans q1⟩
  have hpt := ne_upd h.pt h.lo hu
  have hp : BK w1 p 56 #[nv, tv] := (hg.block p h.lo fun e => h.pt e.symm).trans h.blk
  have hnt : dis nv tv' := (dis.upd h.nt.symm (fun k hk => (h.nodes.lt k hk).2) hu).symm
  exact ⟨hp.set 1 tv', h.low, (h.nodes.ne hg fun k hk e => h.nt k hk e).ne hs fun k hk e => h.pn (by cases e; exact hk), ho.ne hs fun k hk e => hpt (by cases e; exact hk), h.nC.keep hk, hn.keep hk, h.pn, hpt, hnt, h.hA⟩
/-- what can be read of it -/
theorem CW.tell (h : CW A B w p W nv tv nc tc) : ∃ na NL ncap ta TL tcap, Hid (nv = .slice na NL ncap) ∧ Hid (tv = .slice ta TL tcap) ∧ Hid (NL = W.nodes.length) ∧ Hid (TL = W.net.length) ∧ NL ≤ ncap ∧ TL ≤ tcap ∧ tcap ≤ 9223372036854775807 ∧
    w.cell? ⟨p, 0, none⟩ = some (.slice na NL ncap) ∧ w.cell? ⟨p, 1, none⟩ = some (.slice ta TL tcap) ∧ w.frozen? ⟨p, 0, none⟩ = false ∧ w.frozen? ⟨p, 1, none⟩ = false := by
  obtain ⟨na, NL, ncap, e1, q1, r1, _⟩ := SC.shp h.nodes.sc
  obtain ⟨ta, TL, tcap, e2, q2, r2, s2⟩ := SC.shp h.net.sc
  have b := h.blk
  rw [e1, e2] at b
  exact ⟨na, NL, ncap, ta, TL, tcap, hide e1, hide e2, q1, q2, r1, r2, s2, b.at rfl, b.at rfl, b.thaw _, b.thaw _⟩
end
/-- all that is no part of it is as it was -/
def Frm (A : Nat → Prop) (p : Nat) (w : World) (nv tv : Value) (w' : World) (nv' tv' : Value) : Prop := ∀ b, Fp A w p nv tv b → Fp A w' p nv' tv' b ∧ w'.heap[b]? = w.heap[b]?
theorem Frm.trans {p : Nat} {w w1 w2 : World} {nv tv nv1 tv1 nv2 tv2 : Value} (h : Frm A p w nv tv w1 nv1 tv1) (k : Frm A p w1 nv1 tv1 w2 nv2 tv2) : Frm A p w nv tv w2 nv2 tv2 := fun b hb => ⟨(k b (h b hb).1).1, (k b (h b hb).1).2.trans (h b hb).2⟩
theorem Frm.below {p : Nat} {w w1 : World} {nv tv : Value} (hb : Below w.heap.size w w1) : Frm A p w nv tv w1 nv tv := fun b hp => ⟨⟨Nat.lt_of_lt_of_le hp.1 hb.size, hp.2⟩, hb.block b hp.1⟩
theorem CW.setNetFr {B : Nat} {w w1 : World} {p : Nat} {W : Rf.Wd} {nv tv tv' : Value} {nc tc : List Value} (_h : CW A B w p W nv tv nc tc) (hg : w.grownBy w1 tv.ownBlock) (hu : Upd w.heap.size tv tv') : Frm A p w nv tv (w1.setCell ⟨p, 1, none⟩ tv') nv tv' := by
  have hs := grown_set w1 ⟨p, 1, none⟩ tv'
  have hsz : (w1.setCell ⟨p, 1, none⟩ tv').heap.size = w1.heap.size := by simp [World.setCell]
  intro b hp
  have q1 := hg.block b hp.1 fun e => hp.2.2.2.1 e.symm
  have q2 := hs.block b (Nat.lt_of_lt_of_le hp.1 hg.size) fun e => hp.2.1 (by cases e; rfl)
  exact ⟨⟨by rw [hsz]; exact Nat.lt_of_lt_of_le hp.1 hg.size, hp.2.1, hp.2.2.1, ne_upd hp.2.2.2.1 hp.1 hu, hp.2.2.2.2⟩, q2.trans q1⟩
/-- what a method leaves -/
def PC (A : Nat → Prop) (B p : Nat) (nv tv : Value) (w : World) (W : Rf.Wd) (e : Ending) (w' : World) : Prop := e = .returned (.tuple #[]) ∧ ∃ nv' tv' nc tc, CW A B w' p W nv' tv' nc tc ∧ Below B w w' ∧ Frm A p w nv tv w' nv' tv'

end Go.Proofs.Ytneepoaimbnneaa

namespace Go.Proofs.Ytneepoaimbnneaa
open Go.RowKit

theorem info_Nd : (Try.prog.info? 34).map (fun i => (i.zero, i.size, i.bytes)) = some (some (.agg #[.int .i64 0, .int .i64 0, .int .i64 0, .int .i64 0, .slice none 0 0, .int .i64 0, .int .i64 0, .int .i64 0, .slice none 0 0, .slice none 0 0, .slice none 0 0]), 11, 152) := by kernel_rfl
theorem none_N : NoneOk 24 34 11 := by
  intro ty c base v n xs w hown
  rcases hown.2 with ⟨rfl, rfl⟩ | ⟨g, cap, cur, rfl, _, hgb, r1, r2, r3, r4⟩
  · simp [go_sem, Builtin.append_]
  · simp [go_sem, Builtin.append_, r1]

end Go.Proofs.Ytneepoaimbnneaa
namespace Go.Proofs.Ytneepoaimbnneaa.CL
open Go.RowKit
variable {A : Nat → Prop}

set_option maxHeartbeats 1000000 in
theorem copiedN_any (v : Value) (n : Nat) (cs : List Value) (w : World) (hv : SC (· < w.heap.size) w v 11 n cs) (h1 : ∀ u ∈ cs, u.oneCell' = true) (hl : n * 152 ≤ 140737488355328) : Calls Try.prog 16 #[v] w fun e w' => ∃ v', e = .returned v' ∧ w'.ownsRow w.heap.size 34 11 v' n cs ∧ Below w.heap.size w w' := by
  obtain ⟨i0, I0, I1, I2, I3⟩ := info_parts info_Nd
  have I0' := hide I0
  have I1' := hide I1
  have I2' := hide I2
  have I3' := hide I3
  clear I0 I1 I2 I3
  have HV := hide hv
  have H1 := hide h1
  obtain ⟨a, cap, rfl, _, _⟩ := SC.shape hv
  clear hv h1
  have hO := hide (World.ownsRow_nil w w.heap.size 34 11)
  have m1 : Hid (0 + n ≤ maxLen) := hide (by unfold maxLen; omega)
  have m2 : Hid ((0 + n) * 152 ≤ 140737488355328) := hide (by omega)
  go_enter Try.func16, Try.ntmps16
  go_wp2_with (at_builtin; refine wpList_append_sc rfl _ _ 24 rfl w.heap.size 34 i0 (.agg #[.int .i64 0, .int .i64 0, .int .i64 0, .int .i64 0, .slice none 0 0, .int .i64 0, .int .i64 0, .int .i64 0, .slice none 0 0, .slice none 0 0, .slice none 0 0]) 11 152 Try.underlying24 (unhide I0') (unhide I1') (unhide I2') (unhide I3') rfl (by decide) none_N _ _ _ _ _ _ rfl rfl (unhide hO) (unhide HV) (unhide H1) (unhide m1) (unhide m2) (Nat.le_refl _) ?_)
  intro v' w' ho hg _
  have HB := hide (own_old (unhide hO) hg (Nat.le_refl _))

  have HO := hide ho
  clear ho hg m1 m2 hO HV H1
  go_wp2
  go_ret
  exact ⟨_, rfl, unhide HO, unhide HB⟩

set_option maxHeartbeats 1000000 in
theorem copiedM_any (v : Value) (n : Nat) (cs : List Value) (w : World) (hv : SC (· < w.heap.size) w v 9 n cs) (h1 : ∀ u ∈ cs, u.oneCell' = true) (hl : n * 88 ≤ 140737488355328) : Calls Try.prog 17 #[v] w fun e w' => ∃ v', e = .returned v' ∧ w'.ownsRow w.heap.size 40 9 v' n cs ∧ Below w.heap.size w w' := by
  obtain ⟨i0, I0, I1, I2, I3⟩ := info_parts info_M
  have I0' := hide I0
  have I1' := hide I1
  have I2' := hide I2
  have I3' := hide I3
  clear I0 I1 I2 I3
  have HV := hide hv
  have H1 := hide h1
  obtain ⟨a, cap, rfl, _, _⟩ := SC.shape hv
  clear hv h1
  have hO := hide (World.ownsRow_nil w w.heap.size 40 9)
  have m1 : Hid (0 + n ≤ maxLen) := hide (by unfold maxLen; omega)
  have m2 : Hid ((0 + n) * 88 ≤ 140737488355328) := hide (by omega)
  go_enter Try.func17, Try.ntmps17
  go_wp2_with (at_builtin; refine wpList_append_sc rfl _ _ 25 rfl w.heap.size 40 i0 (.agg #[.int .i64 0, .int .i64 0, .int .i64 0, .int .i64 0, .int .i64 0, .int .i64 0, .int .i64 0, .slice none 0 0, .bool false]) 9 88 Try.underlying25 (unhide I0') (unhide I1') (unhide I2') (unhide I3') rfl (by decide) none_M _ _ _ _ _ _ rfl rfl (unhide hO) (unhide HV) (unhide H1) (unhide m1) (unhide m2) (Nat.le_refl _) ?_)
  intro v' w' ho hg _
  have HB := hide (own_old (unhide hO) hg (Nat.le_refl _))

  have HO := hide ho
  clear ho hg m1 m2 hO HV H1
  go_wp2
  go_ret
  exact ⟨_, rfl, unhide HO, unhide HB⟩

set_option maxHeartbeats 1000000 in
theorem copiedT_any (v : Value) (n : Nat) (cs : List Value) (w : World) (hv : SC (· < w.heap.size) w v 2 n cs) (h1 : ∀ u ∈ cs, u.oneCell' = true) (hl : n * 16 ≤ 140737488355328) : Calls Try.prog 25 #[v] w fun e w' => ∃ v', e = .returned v' ∧ w'.ownsRow w.heap.size 43 2 v' n cs ∧ Below w.heap.size w w' := by
  obtain ⟨i0, I0, I1, I2, I3⟩ := info_parts info_T
  have I0' := hide I0
  have I1' := hide I1
  have I2' := hide I2
  have I3' := hide I3
  clear I0 I1 I2 I3
  have HV := hide hv
  have H1 := hide h1
  obtain ⟨a, cap, rfl, _, _⟩ := SC.shape hv
  clear hv h1
  have hO := hide (World.ownsRow_nil w w.heap.size 43 2)
  have m1 : Hid (0 + n ≤ maxLen) := hide (by unfold maxLen; omega)
  have m2 : Hid ((0 + n) * 16 ≤ 140737488355328) := hide (by omega)
  go_enter Try.func25, Try.ntmps25
  go_wp2_with (at_builtin; refine wpList_append_sc rfl _ _ 31 rfl w.heap.size 43 i0 (.agg #[.int .i64 0, .int .i64 0]) 2 16 Try.underlying31 (unhide I0') (unhide I1') (unhide I2') (unhide I3') rfl (by decide) none_T _ _ _ _ _ _ rfl rfl (unhide hO) (unhide HV) (unhide H1) (unhide m1) (unhide m2) (Nat.le_refl _) ?_)
  intro v' w' ho hg _
  have HB := hide (own_old (unhide hO) hg (Nat.le_refl _))

  have HO := hide ho
  clear ho hg m1 m2 hO HV H1
  go_wp2
  go_ret
  exact ⟨_, rfl, unhide HO, unhide HB⟩

set_option maxHeartbeats 1000000 in
theorem copiedI_any (v : Value) (n : Nat) (cs : List Value) (w : World) (hv : SC (· < w.heap.size) w v 1 n cs) (h1 : ∀ u ∈ cs, u.oneCell' = true) (hl : n * 8 ≤ 140737488355328) : Calls Try.prog 26 #[v] w fun e w' => ∃ v', e = .returned v' ∧ w'.ownsRow w.heap.size 3 1 v' n cs ∧ Below w.heap.size w w' := by
  obtain ⟨i0, I0, I1, I2, I3⟩ := info_parts info_I
  have I0' := hide I0
  have I1' := hide I1
  have I2' := hide I2
  have I3' := hide I3
  clear I0 I1 I2 I3
  have HV := hide hv
  have H1 := hide h1
  obtain ⟨a, cap, rfl, _, _⟩ := SC.shape hv
  clear hv h1
  have hO := hide (World.ownsRow_nil w w.heap.size 3 1)
  have m1 : Hid (0 + n ≤ maxLen) := hide (by unfold maxLen; omega)
  have m2 : Hid ((0 + n) * 8 ≤ 140737488355328) := hide (by omega)
  go_enter Try.func26, Try.ntmps26
  go_wp2_with (at_builtin; refine wpList_append_sc rfl _ _ 32 rfl w.heap.size 3 i0 (.int .i64 0) 1 8 Try.underlying32 (unhide I0') (unhide I1') (unhide I2') (unhide I3') rfl (by decide) none_I _ _ _ _ _ _ rfl rfl (unhide hO) (unhide HV) (unhide H1) (unhide m1) (unhide m2) (Nat.le_refl _) ?_)
  intro v' w' ho hg _
  have HB := hide (own_old (unhide hO) hg (Nat.le_refl _))

  have HO := hide ho
  clear ho hg m1 m2 hO HV H1
  go_wp2
  go_ret
  exact ⟨_, rfl, unhide HO, unhide HB⟩

theorem hasNode_any (p N cap : Nat) (a : Option Addr) (k : Int) (w : World) (hc : w.cell? ⟨p, 0, none⟩ = some (.slice a N cap)) : Calls Try.prog 19 #[.pointer (some ⟨p, 0, none⟩), .int .i64 k] w fun e w' => e = .returned (.bool (decide (1 ≤ k ∧ k ≤ (N : Int)))) ∧ w' = w := by
  by_cases h1 : (1 : Int) ≤ k
  · by_cases h2 : k ≤ (N : Int)
    · have hd : decide (1 ≤ k ∧ k ≤ (N : Int)) = true := decide_eq_true ⟨h1, h2⟩
      rw [hd]
      clear hd
      go_enter Try.func19, Try.ntmps19
      go_wp2
      go_ret
      exact ⟨rfl, rfl⟩
    · have hd : decide (1 ≤ k ∧ k ≤ (N : Int)) = false := decide_eq_false fun q => h2 q.2
      rw [hd]
      clear hd
      go_enter Try.func19, Try.ntmps19
      go_wp2
      go_ret
      exact ⟨rfl, rfl⟩
  · have hd : decide (1 ≤ k ∧ k ≤ (N : Int)) = false := decide_eq_false fun q => h1 q.1
    rw [hd]
    clear hd
    go_enter Try.func19, Try.ntmps19
    go_wp2
    go_ret
    exact ⟨rfl, rfl⟩

theorem hasMessage_any (p N cap : Nat) (a : Option Addr) (k : Int) (w : World) (hc : w.cell? ⟨p, 1, none⟩ = some (.slice a N cap)) : Calls Try.prog 23 #[.pointer (some ⟨p, 0, none⟩), .int .i64 k] w fun e w' => e = .returned (.bool (decide (0 ≤ k ∧ k < (N : Int)))) ∧ w' = w := by
  by_cases h1 : (0 : Int) ≤ k
  · by_cases h2 : k < (N : Int)
    · have hd : decide (0 ≤ k ∧ k < (N : Int)) = true := decide_eq_true ⟨h1, h2⟩
      rw [hd]
      clear hd
      go_enter Try.func23, Try.ntmps23
      go_wp2
      go_ret
      exact ⟨rfl, rfl⟩
    · have hd : decide (0 ≤ k ∧ k < (N : Int)) = false := decide_eq_false fun q => h2 q.2
      rw [hd]
      clear hd
      go_enter Try.func23, Try.ntmps23
      go_wp2
      go_ret
      exact ⟨rfl, rfl⟩
  · have hd : decide (0 ≤ k ∧ k < (N : Int)) = false := decide_eq_false fun q => h1 q.1
    rw [hd]
    clear hd
    go_enter Try.func23, Try.ntmps23
    go_wp2
    go_ret
    exact ⟨rfl, rfl⟩

theorem ofMessage_any (k : Int) (w : World) : Calls Try.prog 22 #[.int .i64 k] w fun e w' => e = .returned (.bool (decide (k = 4 ∨ k = 5 ∨ k = 6))) ∧ w' = w := by
  by_cases h4 : k = 4
  · subst h4
    go_enter Try.func22, Try.ntmps22
    go_wp2
    go_ret
    exact ⟨rfl, rfl⟩
  by_cases h5 : k = 5
  · subst h5
    go_enter Try.func22, Try.ntmps22
    go_wp2
    go_ret
    exact ⟨rfl, rfl⟩
  by_cases h6 : k = 6
  · subst h6
    go_enter Try.func22, Try.ntmps22
    go_wp2
    go_ret
    exact ⟨rfl, rfl⟩
  have hd : decide (k = 4 ∨ k = 5 ∨ k = 6) = false := decide_eq_false (by omega)
  rw [hd]
  have e4 : (k == 4) = false := by simpa using h4
  have e5 : (k == 5) = false := by simpa using h5
  have e6 : (k == 6) = false := by simpa using h6
  clear hd
  go_enter Try.func22, Try.ntmps22
  go_wp2
  go_ret
  exact ⟨rfl, rfl⟩

end Go.Proofs.Ytneepoaimbnneaa.CL

namespace Go.Proofs.Ytneepoaimbnneaa.CL
open Go.RowKit
variable {A : Nat → Prop}

/-- clear -/
theorem run_clear_cells (w : World) (t e ty : TypeId) (z : Value) (ht : Try.prog.underlying t = some (.slice e)) (hv : ∀ w, (zeroValue e).run Try.prog w = .ok z w) (h1 : ∀ j, j < z.cells.size → (z.cells[j]!).oneCell' = true) (hz : 0 < z.cells.size) (b o n c : Nat) (hn : 0 < n)
    (hc : ∀ j, j < n * z.cells.size → (w.cell? ⟨b, o + j, none⟩).isSome = true) (hf : ∀ j, j < n * z.cells.size → w.frozen? ⟨b, o + j, none⟩ = false) :
    (Builtin.clear_ #[t] ty #[.slice (some ⟨b, o, none⟩) n c]).run Try.prog w = .ok (.tuple #[]) (w.setCells b o (Builtin.zeroCells z.cells n).toList) := by
  have hl : (Builtin.zeroCells z.cells n).toList.length = n * z.cells.size := by rw [Array.length_toList, size_zeroCells]
  have hst := run_storeCells_cells (P := Try.prog) b o (Builtin.zeroCells z.cells n).toList 0 w (by rw [hl]; simpa using hc) (by rw [hl]; simpa using hf) (by
    intro v hv'
    simp only [Builtin.zeroCells, Array.toList_map, List.mem_map] at hv'
    obtain ⟨j, _, rfl⟩ := hv'
    exact h1 _ (Nat.mod_lt _ hz))
  simp only [Nat.add_zero] at hst
  obtain ⟨m, rfl⟩ : ∃ m, n = m + 1 := ⟨n - 1, by omega⟩
  simp [Builtin.clear_, run_underlying ht, hv, hst]
theorem zeroM (w : World) : (zeroValue 40).run Try.prog w = .ok (.agg #[.int .i64 0, .int .i64 0, .int .i64 0, .int .i64 0, .int .i64 0, .int .i64 0, .int .i64 0, .slice none 0 0, .bool false]) w := by
  obtain ⟨i0, I0, I1, I2, I3⟩ := info_parts info_M
  simp [zeroValue, typeInfo, I0, I1]

set_option maxHeartbeats 4000000 in
set_option maxRecDepth 100000 in
theorem delete_any (B g off cap n i : Nat) (tc : List Value) (w : World) (h : RO B w (.slice (some ⟨g, off, none⟩) n cap) 9 n tc) (h1 : ∀ u ∈ tc, u.oneCell' = true) (hi : i < n) (hn : n ≤ 1000) (j : Nat) (hj : j = i + 1) :
    Calls Try.prog 33 #[.slice (some ⟨g, off, none⟩) n cap, .int .i64 (i : Int), .int .i64 (j : Int)] w fun e w' => e = .returned (.slice (some ⟨g, off, none⟩) (n - 1) cap) ∧ RO B w' (.slice (some ⟨g, off, none⟩) (n - 1) cap) 9 (n - 1) (tc.take (i * 9) ++ tc.drop (j * 9)) ∧ w.grownBy w' (some g) := by
  obtain ⟨i0, hi0, hz0, hz1, hz2⟩ := info_parts info_M
  have hlen : tc.length = n * 9 := h.1
  obtain ⟨k3, k4, k5, k6⟩ : n ≤ cap ∧ cap ≤ 9223372036854775807 ∧ (∀ t, t < cap * 9 → (w.cell? ⟨g, off + t, none⟩).isSome = true ∧ w.frozen? ⟨g, off + t, none⟩ = false) ∧ ∀ t u, tc[t]? = some u → w.cell? ⟨g, off + t, none⟩ = some u := by
    rcases h.2 with ⟨e, _⟩ | ⟨g', off', cap', e, h1, h2, h3, h4, h5, h6⟩
    · cases e
    · cases e; exact ⟨h3, h4, h5, h6⟩
  obtain ⟨news, hnews⟩ : ∃ news, news = tc.drop (j * 9) := ⟨_, rfl⟩
  have hnl : news.length = (n - j) * 9 := by rw [hnews, List.length_drop, hlen, Nat.sub_mul]
  obtain ⟨A, hA, hsrc⟩ : ∃ A : Addr, (if cap = j then some (⟨g, off, none⟩ : Addr) else some ⟨g, off + j * 9, none⟩) = some A ∧ Hid (∀ t u, news[t]? = some u → w.drew.cell? (A.add t) = some u) := by
    by_cases hc : cap = j
    · refine ⟨⟨g, off, none⟩, by simp [hc], hide fun t u hu => ?_⟩
      have h0 : news.length = 0 := by rw [hnl]; omega
      rw [List.length_eq_zero_iff.1 h0] at hu
      simp at hu
    · refine ⟨⟨g, off + j * 9, none⟩, by simp [hc], hide fun t u hu => ?_⟩
      rw [hnews, List.getElem?_drop] at hu
      rw [Addr.add_lit, Nat.add_assoc]
      exact k6 _ u hu
  have s1 : Hid (news.length = (n - j) * 9) := hide hnl
  have s2 : Hid (∀ u ∈ news, u.oneCell' = true) := hide fun u hu => h1 u (by rw [hnews] at hu; exact List.mem_of_mem_drop hu)
  have s3 : Hid (∀ t, t < news.length → (w.drew.cell? ⟨g, off + i * 9 + t, none⟩).isSome = true ∧ w.drew.frozen? ⟨g, off + i * 9 + t, none⟩ = false) := hide fun t ht => by
    rw [hnl] at ht
    rw [Nat.add_assoc]
    exact k5 _ (by omega)
  obtain ⟨W1, hW1⟩ : ∃ W1, W1 = w.drew.setCells g (off + i * 9) news := ⟨_, rfl⟩
  have hD : RO B w.drew (.slice (some ⟨g, off, none⟩) n cap) 9 n tc := h.keep (w' := w.drew) fun b hb => ⟨(h.lt b hb).2, rfl⟩
  have q1 : RO B W1 (.slice (some ⟨g, off, none⟩) (n - 1) cap) 9 (n - 1) (tc.take (i * 9) ++ tc.drop (j * 9)) := by
    rw [hW1]
    refine setCells_ro hD _ _ _ _ (by rw [List.length_append, List.length_take, List.length_drop, hlen]; omega) (by omega) fun t u ht => ?_
    have htl : (tc.take (i * 9)).length = i * 9 := by rw [List.length_take, hlen]; omega
    rcases Nat.lt_or_ge t (i * 9) with q | q
    · rw [List.getElem?_append_left (by omega), List.getElem?_take_of_lt q] at ht
      rw [World.cell?_setCells_out _ _ _ _ _ (fun _ _ => .inl (by simp only; omega))]
      exact k6 t u ht
    · rw [List.getElem?_append_right (by omega), htl, ← hnews] at ht
      obtain ⟨q2, q3⟩ := List.getElem?_eq_some_iff.1 ht
      have e1 := World.cell?_setCells_in g news (off + i * 9) w.drew (fun t ht => (unhide s3 t ht).1) (t - i * 9) q2
      have e2 : off + t = off + i * 9 + (t - i * 9) := by omega
      rw [e2, e1, q3]
  have g1 : w.grownBy W1 (some g) := by
    rw [hW1]
    have g0 : w.grownBy w.drew (some g) := ⟨rfl, rfl, rfl, Nat.le_refl _, fun _ _ _ => rfl⟩
    exact grown_trans g0 (grown_setCells w.drew g news _)
  have hm : i + (n - j) = n - 1 := by omega
  obtain ⟨zs, hzl, hcl⟩ : ∃ zs : List Value, zs.length = 9 ∧ ∀ ty c, (Builtin.clear_ #[25] ty #[.slice (some ⟨g, off + (i + (n - j)) * 9, none⟩) (n - (i + (n - j))) c]).run Try.prog W1 = .ok (.tuple #[]) (W1.setCells g (off + (i + (n - j)) * 9) zs) := by
    have e1 : n - (i + (n - j)) = 1 := by omega
    have hs : ∀ t, t < 9 → (W1.cell? ⟨g, off + (i + (n - j)) * 9 + t, none⟩).isSome = true ∧ W1.frozen? ⟨g, off + (i + (n - j)) * 9 + t, none⟩ = false := by
      intro t ht
      rw [Nat.add_assoc, hW1]
      have := k5 ((i + (n - j)) * 9 + t) (by omega)
      exact ⟨World.isSome_setCells _ _ _ _ _ this.1, by rw [World.frozen?_setCells]; exact this.2⟩
    refine ⟨(Builtin.zeroCells (Value.agg #[.int .i64 0, .int .i64 0, .int .i64 0, .int .i64 0, .int .i64 0, .int .i64 0, .int .i64 0, .slice none 0 0, .bool false]).cells 1).toList, by rw [Array.length_toList, size_zeroCells]; rfl, fun ty c => ?_⟩
    · rw [e1]
      exact run_clear_cells W1 _ _ ty _ Try.underlying25 zeroM (by decide) (by decide) g _ 1 c (by omega) (fun t ht => (hs t ht).1) (fun t ht => (hs t ht).2)
  have q2 : Hid (RO B (W1.setCells g (off + (i + (n - j)) * 9) zs) (.slice (some ⟨g, off, none⟩) (n - 1) cap) 9 (n - 1) (tc.take (i * 9) ++ tc.drop (j * 9))) := hide (by
    refine setCells_ro q1 _ _ _ _ q1.1 (by omega) fun t u ht => ?_
    have : t < (n - 1) * 9 := by rw [← q1.1]; exact (List.getElem?_eq_some_iff.1 ht).1
    rw [World.cell?_setCells_out _ _ _ _ _ (fun _ _ => .inl (by simp only; omega))]
    rcases q1.2 with ⟨e, _⟩ | ⟨g', off', cap', e, h1, h2, h3, h4, h5, h6⟩
    · cases e
    · cases e; exact h6 t u ht)
  have g2 : Hid (w.grownBy (W1.setCells g (off + (i + (n - j)) * 9) zs) (some g)) := hide (grown_trans g1 (grown_setCells W1 g zs _))
  have hW : Hid (W1 = w.drew.setCells g (off + i * 9) news) := hide hW1
  have HM := hide hm
  have hic : i ≤ cap := by omega
  have hjc : j ≤ cap := by omega
  have hic' : (i : Int) ≤ (n : Int) := by omega
  have hij : i ≤ j := by omega
  have hjn : j ≤ n := by omega
  have hne : ((i : Int) == (j : Int)) = false := by simp; omega
  have hne2 : ¬ i = j := by omega
  clear hj hW1 hnews hlen k5 k6 q1 g1 hD hnl h h1 hzl hm
  go_enter Try.func33, Try.ntmps33
  go_wp2_with fail
  go_region_law (refine step_append_room rfl (.tmp 22) (.tmp 25) 25 rfl 40 i0 9 Try.underlying25 hi0 hz1 g off i cap (by simp [Act.eval, Act.put]) A (n - j) (cap - j) news (by simp [Act.eval, Act.put]) (unhide s1) (unhide hsrc) (unhide s2) (by omega) (unhide s3) ?_; rw [← unhide hW])
  go_wp2
  go_ret
  exact ⟨by rw [unhide HM]; rfl, unhide q2, unhide g2⟩

end Go.Proofs.Ytneepoaimbnneaa.CL

namespace Go.Proofs.Ytneepoaimbnneaa
open Go.RowKit
variable {A : Nat → Prop}

theorem NC.set {P : Nat → Prop} {w : World} : ∀ {xs : List Rf.Node} {cs : List Value}, NC P w xs cs → ∀ {k : Nat} {y : Rf.Node} {v : Array Value}, k < xs.length → NV P w v y → NC P w (xs.set k y) (cs.take (k * 11) ++ v.toList ++ cs.drop (k * 11 + 11))
  | [], _, _, k, y, v, hk, _ => by simp at hk
  | x :: xs, cs, ⟨u, rest, h1, h2, h3⟩, 0, y, v, hk, hv => by
    have hl : u.toList.length = 11 := by simpa using h2.size
    subst h1
    refine ⟨v, rest, ?_, hv, h3⟩
    rw [Nat.zero_mul, List.take_zero, List.nil_append, Nat.zero_add, ← hl, List.drop_left]
  | x :: xs, cs, ⟨u, rest, h1, h2, h3⟩, k + 1, y, v, hk, hv => by
    have hl : u.toList.length = 11 := by simpa using h2.size
    subst h1
    refine ⟨u, _, ?_, h2, NC.set h3 (k := k) (y := y) (v := v) (by simpa using hk) hv⟩
    have e : (k + 1) * 11 = u.toList.length + k * 11 := by omega
    rw [e, List.take_length_add_append, Nat.add_assoc, List.drop_length_add_append, List.append_assoc, List.append_assoc, List.append_assoc]
theorem NV.cellsC {P : Nat → Prop} {w : World} {v : Array Value} {x : Rf.Node} (h : NV P w v x) : ∃ (a1 : Option Addr) (n1 c1 : Nat) (a2 : Option Addr) (n2 c2 : Nat) (a3 : Option Addr) (n3 c3 : Nat) (a4 : Option Addr) (n4 c4 : Nat), v = #[.int .i64 x.id, .int .i64 x.n, .int .i64 x.term, .int .i64 x.vote, .slice a1 n1 c1, .int .i64 x.commit, .int .i64 x.role, .int .i64 x.boss, .slice a2 n2 c2, .slice a3 n3 c3, .slice a4 n4 c4] := by
  obtain ⟨lv, vv, nv, mv, rfl, h2, h3, h4, h5⟩ := h
  obtain ⟨la, lc, rfl, _⟩ := SC.shape h2
  obtain ⟨va, vc, rfl, _⟩ := SC.shape h3
  obtain ⟨na, nc, rfl, _⟩ := SC.shape h4
  obtain ⟨ma, mc, rfl, _⟩ := SC.shape h5
  exact ⟨_, _, _, _, _, _, _, _, _, _, _, _, rfl⟩
theorem NC.one {P : Nat → Prop} {w : World} : ∀ {xs : List Rf.Node} {cs : List Value}, NC P w xs cs → ∀ u ∈ cs, u.oneCell' = true
  | [], _, h => by rw [NC] at h; subst h; intro u hu; cases hu
  | x :: xs, cs, ⟨v, rest, h1, h2, h3⟩ => by
    subst h1
    intro u hu
    rcases List.mem_append.1 hu with q | q
    · obtain ⟨a1, n1, c1, a2, n2, c2, a3, n3, c3, a4, n4, c4, rfl⟩ := h2.cellsC
      simp at q
      rcases q with rfl | rfl | rfl | rfl | rfl | rfl | rfl | rfl | rfl | rfl | rfl <;> rfl
    · exact NC.one h3 u q
/-- eleven cells at a place -/
def At11 (w : World) (g o : Nat) (v0 v1 v2 v3 v4 v5 v6 v7 v8 v9 v10 : Value) : Prop := w.cell? ⟨g, o, none⟩ = some v0 ∧ w.cell? ⟨g, o + 1, none⟩ = some v1 ∧ w.cell? ⟨g, o + 2, none⟩ = some v2 ∧ w.cell? ⟨g, o + 3, none⟩ = some v3 ∧ w.cell? ⟨g, o + 4, none⟩ = some v4 ∧ w.cell? ⟨g, o + 5, none⟩ = some v5 ∧ w.cell? ⟨g, o + 6, none⟩ = some v6 ∧ w.cell? ⟨g, o + 7, none⟩ = some v7 ∧ w.cell? ⟨g, o + 8, none⟩ = some v8 ∧ w.cell? ⟨g, o + 9, none⟩ = some v9 ∧ w.cell? ⟨g, o + 10, none⟩ = some v10
def Thaw11 (w : World) (g o : Nat) : Prop := w.frozen? ⟨g, o, none⟩ = false ∧ w.frozen? ⟨g, o + 1, none⟩ = false ∧ w.frozen? ⟨g, o + 2, none⟩ = false ∧ w.frozen? ⟨g, o + 3, none⟩ = false ∧ w.frozen? ⟨g, o + 4, none⟩ = false ∧ w.frozen? ⟨g, o + 5, none⟩ = false ∧ w.frozen? ⟨g, o + 6, none⟩ = false ∧ w.frozen? ⟨g, o + 7, none⟩ = false ∧ w.frozen? ⟨g, o + 8, none⟩ = false ∧ w.frozen? ⟨g, o + 9, none⟩ = false ∧ w.frozen? ⟨g, o + 10, none⟩ = false
/-- a node of it -/
theorem CW.node {B : Nat} {w : World} {p : Nat} {W : Rf.Wd} {nv tv : Value} {nc tc : List Value} (h : CW A B w p W nv tv nc tc) {k : Nat} {x : Rf.Node} (hx : W.nodes[k]? = some x) :
    ∃ (g off cap : Nat) (a1 : Option Addr) (n1 c1 : Nat) (a2 : Option Addr) (n2 c2 : Nat) (a3 : Option Addr) (n3 c3 : Nat) (a4 : Option Addr) (n4 c4 : Nat), nv = .slice (some ⟨g, off, none⟩) W.nodes.length cap ∧ NV (Fp A w p nv tv) w #[.int .i64 x.id, .int .i64 x.n, .int .i64 x.term, .int .i64 x.vote, .slice a1 n1 c1, .int .i64 x.commit, .int .i64 x.role, .int .i64 x.boss, .slice a2 n2 c2, .slice a3 n3 c3, .slice a4 n4 c4] x ∧
      At11 w g (off + k * 11) (.int .i64 x.id) (.int .i64 x.n) (.int .i64 x.term) (.int .i64 x.vote) (.slice a1 n1 c1) (.int .i64 x.commit) (.int .i64 x.role) (.int .i64 x.boss) (.slice a2 n2 c2) (.slice a3 n3 c3) (.slice a4 n4 c4) ∧ Thaw11 w g (off + k * 11) := by
  have hk : k < W.nodes.length := (List.getElem?_eq_some_iff.1 hx).1
  obtain ⟨v, hv, hc⟩ := h.nC.at hx
  obtain ⟨a1, n1, c1, a2, n2, c2, a3, n3, c3, a4, n4, c4, rfl⟩ := hv.cellsC
  rcases h.nodes.2 with ⟨_, q⟩ | ⟨g, off, cap, e, _⟩
  · omega
  · have hr := h.nodes
    rw [e] at hr
    obtain ⟨h1, h2, h3, h4, h5, h6⟩ := hr.parts
    have hcap : W.nodes.length * 11 ≤ cap * 11 := Nat.mul_le_mul_right _ h3
    have r : ∀ j u, (#[.int .i64 x.id, .int .i64 x.n, .int .i64 x.term, .int .i64 x.vote, .slice a1 n1 c1, .int .i64 x.commit, .int .i64 x.role, .int .i64 x.boss, .slice a2 n2 c2, .slice a3 n3 c3, .slice a4 n4 c4] : Array Value)[j]? = some u → w.cell? ⟨g, off + k * 11 + j, none⟩ = some u := fun j u hj => by
      rw [Nat.add_assoc]
      exact h6 _ u (hc j u hj)
    have f : ∀ j, j < 11 → w.frozen? ⟨g, off + k * 11 + j, none⟩ = false := fun j hj => by
      rw [Nat.add_assoc]
      exact (h5 _ (by omega)).2
    exact ⟨g, off, cap, a1, n1, c1, a2, n2, c2, a3, n3, c3, a4, n4, c4, e, hv, ⟨r 0 _ rfl, r 1 _ rfl, r 2 _ rfl, r 3 _ rfl, r 4 _ rfl, r 5 _ rfl, r 6 _ rfl, r 7 _ rfl, r 8 _ rfl, r 9 _ rfl, r 10 _ rfl⟩, ⟨f 0 (by omega), f 1 (by omega), f 2 (by omega), f 3 (by omega), f 4 (by omega), f 5 (by omega), f 6 (by omega), f 7 (by omega), f 8 (by omega), f 9 (by omega), f 10 (by omega)⟩⟩
/-- one becomes another one -/
theorem CW.setNode {B : Nat} {w : World} {p : Nat} {W : Rf.Wd} {g off cap n : Nat} {tv : Value} {nc tc : List Value} (h : CW A B w p W (.slice (some ⟨g, off, none⟩) n cap) tv nc tc) {k : Nat} (hk : k < W.nodes.length) {y : Rf.Node} {v : Array Value} (hv : NV (Fp A w p (.slice (some ⟨g, off, none⟩) n cap) tv) w v y) :
    CW A B (w.setCells g (off + k * 11) v.toList) p { W with nodes := W.nodes.set k y } (.slice (some ⟨g, off, none⟩) n cap) tv (nc.take (k * 11) ++ v.toList ++ nc.drop (k * 11 + 11)) tc := by
  have hl : v.toList.length = 11 := by simpa using hv.size
  obtain ⟨_, _, e, _, _⟩ := SC.shape h.nodes.sc
  obtain rfl : n = W.nodes.length := by cases e; rfl
  refine h.inNodes (grown_setCells w g v.toList _) ?_ (h.nC.set hk hv)
  have := h.nodes.put (k * 11) v.toList (by omega)
  rw [hl] at this
  rw [List.length_set]
  exact this
theorem wpList_append_ro {P : Nat → Prop} {w : World} {ops : Array Oper} {rest : List Oper} {o : Oper} {a : Act} {Q : Exit → Act → World → Prop} (hgd : o.guard = none) (s x : Operand) (t : TypeId)
    (ho : o.op = .call { callee := .builtin .append, args := #[s, x], argTypes := #[t, t] })
    (B : Nat) (e : TypeId) (i : TypeInfo) (z : Value) (size bytes : Nat) (ht : Try.prog.underlying t = some (.slice e)) (hi : Try.prog.info? e = some i) (hz : i.zero = some z)
    (hsize : i.size = size) (hby : i.bytes = bytes) (hzs : z.cells.size = size) (hsz : 0 < size) (v xv : Value) (n m : Nat) (xs cs : List Value) (hs : a.eval s = v) (hxv : a.eval x = xv) (hown : RO B w v size n xs) (hx : SC P w xv size m cs) (h1 : ∀ u ∈ cs, u.oneCell' = true)
    (h63 : n + m ≤ maxLen) (hbytes : (n + m) * bytes ≤ 140737488355328) (hB : B ≤ w.heap.size)
    (hno : ∀ c, (Builtin.append_ #[t, t] o.type #[v, .slice none 0 c]).run Try.prog w = .ok v w)
    (h : ∀ v' w', RO B w' v' size (n + m) (xs ++ cs) → w.grownBy w' v.ownBlock → Upd w.heap.size v v' → wpList Try.prog ops Q rest (a.put o.dst v') w') : wpList Try.prog ops Q (o :: rest) a w := by
  obtain ⟨v', w', hr, h2, h3, h4⟩ := run_append_ro B t o.type e i z size bytes ht hi hz hsize hby hzs hsz v xv n m xs cs hown hx h1 h63 hbytes hB hno
  refine wpList_plain hgd fun K hK => ?_
  unfold Oper.wp execOp
  simp only [ho, resolve, invoke, builtin, Sem.run_bind, Sem.run_pure, Result.andThen_ok, List.map_toArray, List.map_cons, List.map_nil, hs, hxv, hr]
  exact hK _ _ (h v' w' h2 h3 h4)
theorem no_M (ty : TypeId) (B : Nat) (v : Value) (n : Nat) (xs : List Value) (w : World) (h : RO B w v 9 n xs) : ∀ c, (Builtin.append_ #[25, 25] ty #[v, .slice none 0 c]).run Try.prog w = .ok v w := by
  intro c
  rcases h.2 with ⟨rfl, rfl⟩ | ⟨g, off, cap, rfl, _, _, r1, _⟩
  · simp [go_sem, Builtin.append_]
  · simp [go_sem, Builtin.append_, r1]
theorem no_N (ty : TypeId) (B : Nat) (v : Value) (n : Nat) (xs : List Value) (w : World) (h : RO B w v 11 n xs) : ∀ c, (Builtin.append_ #[24, 24] ty #[v, .slice none 0 c]).run Try.prog w = .ok v w := by
  intro c
  rcases h.2 with ⟨rfl, rfl⟩ | ⟨g, off, cap, rfl, _, _, r1, _⟩
  · simp [go_sem, Builtin.append_]
  · simp [go_sem, Builtin.append_, r1]

end Go.Proofs.Ytneepoaimbnneaa
