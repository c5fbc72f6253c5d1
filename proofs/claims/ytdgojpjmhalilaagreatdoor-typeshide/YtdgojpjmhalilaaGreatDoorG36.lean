/- TypesHide: the region that draws: two appends, a call of Type, a store. (Written by gen_za.py.) -/
import Derived.Test.YtdgojpjmhalilaaGreatDoorG35
import Derived.Test.YtdgojpjmhalilaaGreatDoorG25
import Derived.Laws.OwnMore
import Derived.Maps.AppendAt
namespace Go.Proofs.YtdgojpjmhalilaaGreatDoor
open Go.RowKit Go.MapKept

theorem info_var : (Tryz.prog.info? 35).map (fun i => (i.zero, i.size, i.bytes)) = some (some (.agg #[.string ⟨#[]⟩, .int .i64 0, .slice none 0 0]), 3, 48) := by kernel_rfl
/-- three cells of a name and its type -/
abbrev c3 (s : ByteArray) (k : Int) (a : Option Addr) (n cap : Nat) : List Value := [.string s, .int .i64 k, .slice a n cap]
/-- vars that a slice owns -/
def OV (base : Nat) (w : World) (v : Value) (n : Nat) (cs : List Value) : Prop := w.ownsRow base 35 3 v n cs
theorem OV.keep {base : Nat} {w w' : World} {v : Value} {n : Nat} {cs : List Value} (h : OV base w v n cs) (hb : Below w.heap.size w w') : OV base w' v n cs := by
  obtain ⟨h1, h2⟩ := h
  refine ⟨h1, ?_⟩
  rcases h2 with h2 | ⟨g, cap, cur, hv, hg, hh, r⟩
  · exact .inl h2
  · exact .inr ⟨g, cap, cur, hv, hg, (hb.block g (blk_lt hh)).trans hh, r⟩
theorem OV.own {base : Nat} {w : World} {v : Value} {n : Nat} {cs : List Value} (h : OV base w v n cs) : ∀ g, v.ownBlock = some g → base ≤ g ∧ g < w.heap.size := by
  intro g hg
  rcases h.2 with ⟨rfl, _⟩ | ⟨g', cap, cur, rfl, hB, hh, _⟩
  · simp [Value.ownBlock] at hg
  · simp [Value.ownBlock] at hg; subst hg; exact ⟨hB, blk_lt hh⟩
/-- one var in a new block -/
def One (w : World) (v : Value) (mc : List Value) : Prop := ∃ b, v = .slice (some ⟨b, 0, none⟩) 1 1 ∧ b < w.heap.size ∧ ∀ j u, mc[j]? = some u → w.cell? ((⟨b, 0, none⟩ : Addr).add j) = some u
theorem One.keep {w w' : World} {v : Value} {mc : List Value} (h : One w v mc) (hb : Below w.heap.size w w') : One w' v mc := by
  obtain ⟨b, h1, h2, h3⟩ := h
  refine ⟨b, h1, Nat.lt_of_lt_of_le h2 hb.size, fun j u hu => ?_⟩
  have := h3 j u hu
  rw [Lib.add_plain] at this ⊢
  exact (hb.cell (p := ⟨b, _, none⟩) h2).trans this
/-- what Type told, in new blocks -/
def Rs (base : Nat) (err : Int) (T : TT) (w : World) (v : Value) (ap : Nat → Prop) : Prop := ∃ k a n cap s e, v = .tuple #[.agg #[.int .i64 k, .slice a n cap], .int .i64 err] ∧ base ≤ s ∧ e ≤ w.heap.size ∧ (∀ b, ap b → b < s ∨ e ≤ b) ∧ (err = 0 → MemTP (fun q => s ≤ q ∧ q < e) w T #[.int .i64 k, .slice a n cap])
theorem Rs.keep {base : Nat} {err : Int} {T : TT} {w w' : World} {v : Value} {ap : Nat → Prop} (h : Rs base err T w v ap) (hb : Below w.heap.size w w') : Rs base err T w' v ap := by
  obtain ⟨k, a, n, cap, s, e, h1, h2, h3, h4, h5⟩ := h
  exact ⟨k, a, n, cap, s, e, h1, h2, Nat.le_trans h3 hb.size, h4, fun he => MemTP.keep (fun b hq => ⟨hq, fun o => hb.cell (p := ⟨b, o, none⟩) (by show b < w.heap.size; omega)⟩) (h5 he)⟩
def P9 (base : Nat) (w : World) (v : Value) : Prop := ∃ b, v = .pointer (some ⟨b, 0, none⟩) ∧ base ≤ b ∧ Bx2 w b (.int .i64 0) (.slice none 0 0)
theorem P9.keep {base : Nat} {w w' : World} {v : Value} (h : P9 base w v) (hb : Below w.heap.size w w') : P9 base w' v := by
  obtain ⟨b, h1, h2, h3⟩ := h
  exact ⟨b, h1, h2, h3.keep hb h3.low⟩
def isP (v : Value) (b : Nat) : Prop := v = .pointer (some ⟨b, 0, none⟩)

structure RH (w0 : World) (a0 : Act) (X Mv vv : Value) (mc lc : List Value) (n : Nat) (err : Int) (T : TT) (Fin : Value → World → Prop) (L : Nat → Bool) (a : Act) (w : World) : Prop where
  size : a.tmps.size = 42
  defs : a.defers = []
  rest : ∀ j, j ∉ [23, 24, 25, 26, 27, 28, 29, 30, 22, 31, 32, 9, 10] → G a j = G a0 j
  old : Below w0.heap.size w0 w
  f0 : L 0 = true → G a 23 = X
  f2 : L 2 = true → G a 25 = Mv
  f5 : L 5 = true → G a 28 = vv
  f1 : L 1 = true → L 4 = false → OV w0.heap.size w (G a 24) 0 []
  f3 : L 3 = true → L 4 = false → One w (G a 26) mc
  f4 : L 4 = true → L 6 = false → OV w0.heap.size w (G a 27) 1 mc
  f6 : L 6 = true → L 7 = false → OV w0.heap.size w (G a 29) (1 + n) (mc ++ lc)
  f7 : L 7 = true → L 12 = false → Rs w0.heap.size err T w (G a 30) (fun b => L 11 = true ∧ isP (G a 9) b)
  f8 : L 8 = true → G a 22 = G a 30
  f9 : L 9 = true → ∃ u, G a 30 = .tuple #[u, .int .i64 err] ∧ G a 31 = u
  f10 : L 10 = true → G a 32 = .int .i64 err
  f11 : L 11 = true → L 12 = false → P9 w0.heap.size w (G a 9)
  a1 : L 11 = true → L 12 = false → L 1 = true → L 4 = false → ∀ b, isP (G a 9) b → (G a 24).ownBlock ≠ some b
  a4 : L 11 = true → L 12 = false → L 4 = true → L 6 = false → ∀ b, isP (G a 9) b → (G a 27).ownBlock ≠ some b
  f12 : L 12 = true → Fin (G a 9) w
  f13 : L 13 = true → G a 10 = .int .i64 err

section
variable {w0 w w' : World} {a0 a a' : Act} {X Mv vv : Value} {mc lc : List Value} {n : Nat} {err : Int} {T : TT} {Fin : Value → World → Prop} {L : Nat → Bool}

theorem RH.s0 {v : Value} (h : RH w0 a0 X Mv vv mc lc n err T Fin L a w) (U : Upd a 23 v a') (hf : a'.defers = a.defers) (hv : v = X) : RH w0 a0 X Mv vv mc lc n err T Fin (fun j => j == 0 || L j) a' w where
    size := U.size.trans h.size
    defs := hf.trans h.defs
    rest := fun j hj => (U.rest j (by intro e; subst e; exact hj (by decide))).trans (h.rest j hj)
    old := h.old
    f0 := fun _ => U.got.trans hv
    f2 := fun q => (U.rest 25 (by decide)).trans (h.f2 (by simpa using q))
    f5 := fun q => (U.rest 28 (by decide)).trans (h.f5 (by simpa using q))
    f1 := fun q r => by rw [(U.rest 24 (by decide))]; exact id (h.f1 (by simpa using q) (by simpa using r))
    f3 := fun q r => by rw [(U.rest 26 (by decide))]; exact id (h.f3 (by simpa using q) (by simpa using r))
    f4 := fun q r => by rw [(U.rest 27 (by decide))]; exact id (h.f4 (by simpa using q) (by simpa using r))
    f6 := fun q r => by rw [(U.rest 29 (by decide))]; exact id (h.f6 (by simpa using q) (by simpa using r))
    f7 := fun q r => by rw [(U.rest 30 (by decide)), (U.rest 9 (by decide))]; have q0 := (h.f7 (by simpa using q) (by simpa using r)); simpa using q0
    f8 := fun q => by rw [(U.rest 22 (by decide)), (U.rest 30 (by decide))]; exact h.f8 (by simpa using q)
    f9 := fun q => by rw [(U.rest 30 (by decide)), (U.rest 31 (by decide))]; exact h.f9 (by simpa using q)
    f10 := fun q => (U.rest 32 (by decide)).trans (h.f10 (by simpa using q))
    f11 := fun q r => by rw [(U.rest 9 (by decide))]; exact id (h.f11 (by simpa using q) (by simpa using r))
    a1 := fun q r s t => by rw [(U.rest 9 (by decide)), (U.rest 24 (by decide))]; exact h.a1 (by simpa using q) (by simpa using r) (by simpa using s) (by simpa using t)
    a4 := fun q r s t => by rw [(U.rest 9 (by decide)), (U.rest 27 (by decide))]; exact h.a4 (by simpa using q) (by simpa using r) (by simpa using s) (by simpa using t)
    f12 := fun q => by rw [(U.rest 9 (by decide))]; exact h.f12 (by simpa using q)
    f13 := fun q => (U.rest 10 (by decide)).trans (h.f13 (by simpa using q))

theorem RH.s2 {v : Value} (h : RH w0 a0 X Mv vv mc lc n err T Fin L a w) (U : Upd a 25 v a') (hf : a'.defers = a.defers) (hv : v = Mv) : RH w0 a0 X Mv vv mc lc n err T Fin (fun j => j == 2 || L j) a' w where
    size := U.size.trans h.size
    defs := hf.trans h.defs
    rest := fun j hj => (U.rest j (by intro e; subst e; exact hj (by decide))).trans (h.rest j hj)
    old := h.old
    f0 := fun q => (U.rest 23 (by decide)).trans (h.f0 (by simpa using q))
    f2 := fun _ => U.got.trans hv
    f5 := fun q => (U.rest 28 (by decide)).trans (h.f5 (by simpa using q))
    f1 := fun q r => by rw [(U.rest 24 (by decide))]; exact id (h.f1 (by simpa using q) (by simpa using r))
    f3 := fun q r => by rw [(U.rest 26 (by decide))]; exact id (h.f3 (by simpa using q) (by simpa using r))
    f4 := fun q r => by rw [(U.rest 27 (by decide))]; exact id (h.f4 (by simpa using q) (by simpa using r))
    f6 := fun q r => by rw [(U.rest 29 (by decide))]; exact id (h.f6 (by simpa using q) (by simpa using r))
    f7 := fun q r => by rw [(U.rest 30 (by decide)), (U.rest 9 (by decide))]; have q0 := (h.f7 (by simpa using q) (by simpa using r)); simpa using q0
    f8 := fun q => by rw [(U.rest 22 (by decide)), (U.rest 30 (by decide))]; exact h.f8 (by simpa using q)
    f9 := fun q => by rw [(U.rest 30 (by decide)), (U.rest 31 (by decide))]; exact h.f9 (by simpa using q)
    f10 := fun q => (U.rest 32 (by decide)).trans (h.f10 (by simpa using q))
    f11 := fun q r => by rw [(U.rest 9 (by decide))]; exact id (h.f11 (by simpa using q) (by simpa using r))
    a1 := fun q r s t => by rw [(U.rest 9 (by decide)), (U.rest 24 (by decide))]; exact h.a1 (by simpa using q) (by simpa using r) (by simpa using s) (by simpa using t)
    a4 := fun q r s t => by rw [(U.rest 9 (by decide)), (U.rest 27 (by decide))]; exact h.a4 (by simpa using q) (by simpa using r) (by simpa using s) (by simpa using t)
    f12 := fun q => by rw [(U.rest 9 (by decide))]; exact h.f12 (by simpa using q)
    f13 := fun q => (U.rest 10 (by decide)).trans (h.f13 (by simpa using q))

theorem RH.s5 {v : Value} (h : RH w0 a0 X Mv vv mc lc n err T Fin L a w) (U : Upd a 28 v a') (hf : a'.defers = a.defers) (hv : v = vv) : RH w0 a0 X Mv vv mc lc n err T Fin (fun j => j == 5 || L j) a' w where
    size := U.size.trans h.size
    defs := hf.trans h.defs
    rest := fun j hj => (U.rest j (by intro e; subst e; exact hj (by decide))).trans (h.rest j hj)
    old := h.old
    f0 := fun q => (U.rest 23 (by decide)).trans (h.f0 (by simpa using q))
    f2 := fun q => (U.rest 25 (by decide)).trans (h.f2 (by simpa using q))
    f5 := fun _ => U.got.trans hv
    f1 := fun q r => by rw [(U.rest 24 (by decide))]; exact id (h.f1 (by simpa using q) (by simpa using r))
    f3 := fun q r => by rw [(U.rest 26 (by decide))]; exact id (h.f3 (by simpa using q) (by simpa using r))
    f4 := fun q r => by rw [(U.rest 27 (by decide))]; exact id (h.f4 (by simpa using q) (by simpa using r))
    f6 := fun q r => by rw [(U.rest 29 (by decide))]; exact id (h.f6 (by simpa using q) (by simpa using r))
    f7 := fun q r => by rw [(U.rest 30 (by decide)), (U.rest 9 (by decide))]; have q0 := (h.f7 (by simpa using q) (by simpa using r)); simpa using q0
    f8 := fun q => by rw [(U.rest 22 (by decide)), (U.rest 30 (by decide))]; exact h.f8 (by simpa using q)
    f9 := fun q => by rw [(U.rest 30 (by decide)), (U.rest 31 (by decide))]; exact h.f9 (by simpa using q)
    f10 := fun q => (U.rest 32 (by decide)).trans (h.f10 (by simpa using q))
    f11 := fun q r => by rw [(U.rest 9 (by decide))]; exact id (h.f11 (by simpa using q) (by simpa using r))
    a1 := fun q r s t => by rw [(U.rest 9 (by decide)), (U.rest 24 (by decide))]; exact h.a1 (by simpa using q) (by simpa using r) (by simpa using s) (by simpa using t)
    a4 := fun q r s t => by rw [(U.rest 9 (by decide)), (U.rest 27 (by decide))]; exact h.a4 (by simpa using q) (by simpa using r) (by simpa using s) (by simpa using t)
    f12 := fun q => by rw [(U.rest 9 (by decide))]; exact h.f12 (by simpa using q)
    f13 := fun q => (U.rest 10 (by decide)).trans (h.f13 (by simpa using q))

theorem RH.s1 {v : Value} (h : RH w0 a0 X Mv vv mc lc n err T Fin L a w) (U : Upd a 24 v a') (hf : a'.defers = a.defers) (hb : Below w.heap.size w w') (hg : L 12 = false) (hv : OV w0.heap.size w' v 0 []) (hn : ∀ g, v.ownBlock = some g → w.heap.size ≤ g) : RH w0 a0 X Mv vv mc lc n err T Fin (fun j => j == 1 || L j) a' w' where
    size := U.size.trans h.size
    defs := hf.trans h.defs
    rest := fun j hj => (U.rest j (by intro e; subst e; exact hj (by decide))).trans (h.rest j hj)
    old := (h.old.trans (hb.mono h.old.size))
    f0 := fun q => (U.rest 23 (by decide)).trans (h.f0 (by simpa using q))
    f2 := fun q => (U.rest 25 (by decide)).trans (h.f2 (by simpa using q))
    f5 := fun q => (U.rest 28 (by decide)).trans (h.f5 (by simpa using q))
    f1 := fun _ _ => by rw [U.got]; exact hv
    f3 := fun q r => by rw [(U.rest 26 (by decide))]; exact (fun q => q.keep hb) (h.f3 (by simpa using q) (by simpa using r))
    f4 := fun q r => by rw [(U.rest 27 (by decide))]; exact (fun q => q.keep hb) (h.f4 (by simpa using q) (by simpa using r))
    f6 := fun q r => by rw [(U.rest 29 (by decide))]; exact (fun q => q.keep hb) (h.f6 (by simpa using q) (by simpa using r))
    f7 := fun q r => by rw [(U.rest 30 (by decide)), (U.rest 9 (by decide))]; have q0 := (h.f7 (by simpa using q) (by simpa using r)).keep hb; simpa using q0
    f8 := fun q => by rw [(U.rest 22 (by decide)), (U.rest 30 (by decide))]; exact h.f8 (by simpa using q)
    f9 := fun q => by rw [(U.rest 30 (by decide)), (U.rest 31 (by decide))]; exact h.f9 (by simpa using q)
    f10 := fun q => (U.rest 32 (by decide)).trans (h.f10 (by simpa using q))
    f11 := fun q r => by rw [(U.rest 9 (by decide))]; exact (fun q => q.keep hb) (h.f11 (by simpa using q) (by simpa using r))
    a1 := fun q r _ _ b hb2 => by rw [U.rest 9 (by decide)] at hb2; rw [U.got]; intro e; obtain ⟨b', q1, _, q3⟩ := h.f11 (by simpa using q) (by simpa using r); unfold isP at hb2; rw [hb2] at q1; simp at q1; have := hn b e; have := q3.low; omega
    a4 := fun q r s t => by rw [(U.rest 9 (by decide)), (U.rest 27 (by decide))]; exact h.a4 (by simpa using q) (by simpa using r) (by simpa using s) (by simpa using t)
    f12 := fun q => absurd (show L 12 = true by simpa using q) (by rw [hg]; decide)
    f13 := fun q => (U.rest 10 (by decide)).trans (h.f13 (by simpa using q))

theorem RH.s3 {v : Value} (h : RH w0 a0 X Mv vv mc lc n err T Fin L a w) (U : Upd a 26 v a') (hf : a'.defers = a.defers) (hb : Below w.heap.size w w') (hg : L 12 = false) (hv : One w' v mc) : RH w0 a0 X Mv vv mc lc n err T Fin (fun j => j == 3 || L j) a' w' where
    size := U.size.trans h.size
    defs := hf.trans h.defs
    rest := fun j hj => (U.rest j (by intro e; subst e; exact hj (by decide))).trans (h.rest j hj)
    old := (h.old.trans (hb.mono h.old.size))
    f0 := fun q => (U.rest 23 (by decide)).trans (h.f0 (by simpa using q))
    f2 := fun q => (U.rest 25 (by decide)).trans (h.f2 (by simpa using q))
    f5 := fun q => (U.rest 28 (by decide)).trans (h.f5 (by simpa using q))
    f1 := fun q r => by rw [(U.rest 24 (by decide))]; exact (fun q => q.keep hb) (h.f1 (by simpa using q) (by simpa using r))
    f3 := fun _ _ => by rw [U.got]; exact hv
    f4 := fun q r => by rw [(U.rest 27 (by decide))]; exact (fun q => q.keep hb) (h.f4 (by simpa using q) (by simpa using r))
    f6 := fun q r => by rw [(U.rest 29 (by decide))]; exact (fun q => q.keep hb) (h.f6 (by simpa using q) (by simpa using r))
    f7 := fun q r => by rw [(U.rest 30 (by decide)), (U.rest 9 (by decide))]; have q0 := (h.f7 (by simpa using q) (by simpa using r)).keep hb; simpa using q0
    f8 := fun q => by rw [(U.rest 22 (by decide)), (U.rest 30 (by decide))]; exact h.f8 (by simpa using q)
    f9 := fun q => by rw [(U.rest 30 (by decide)), (U.rest 31 (by decide))]; exact h.f9 (by simpa using q)
    f10 := fun q => (U.rest 32 (by decide)).trans (h.f10 (by simpa using q))
    f11 := fun q r => by rw [(U.rest 9 (by decide))]; exact (fun q => q.keep hb) (h.f11 (by simpa using q) (by simpa using r))
    a1 := fun q r s t => by rw [(U.rest 9 (by decide)), (U.rest 24 (by decide))]; exact h.a1 (by simpa using q) (by simpa using r) (by simpa using s) (by simpa using t)
    a4 := fun q r s t => by rw [(U.rest 9 (by decide)), (U.rest 27 (by decide))]; exact h.a4 (by simpa using q) (by simpa using r) (by simpa using s) (by simpa using t)
    f12 := fun q => absurd (show L 12 = true by simpa using q) (by rw [hg]; decide)
    f13 := fun q => (U.rest 10 (by decide)).trans (h.f13 (by simpa using q))

theorem RH.s7 {v : Value} (h : RH w0 a0 X Mv vv mc lc n err T Fin L a w) (U : Upd a 30 v a') (hf : a'.defers = a.defers) (hb : Below w.heap.size w w') (hg : L 12 = false) (h8 : L 8 = false) (h9 : L 9 = false) (hv : ∃ k a n cap, v = .tuple #[.agg #[.int .i64 k, .slice a n cap], .int .i64 err] ∧ (err = 0 → MemTP (fun q => w.heap.size ≤ q ∧ q < w'.heap.size) w' T #[.int .i64 k, .slice a n cap])) : RH w0 a0 X Mv vv mc lc n err T Fin (fun j => j == 7 || L j) a' w' where
    size := U.size.trans h.size
    defs := hf.trans h.defs
    rest := fun j hj => (U.rest j (by intro e; subst e; exact hj (by decide))).trans (h.rest j hj)
    old := (h.old.trans (hb.mono h.old.size))
    f0 := fun q => (U.rest 23 (by decide)).trans (h.f0 (by simpa using q))
    f2 := fun q => (U.rest 25 (by decide)).trans (h.f2 (by simpa using q))
    f5 := fun q => (U.rest 28 (by decide)).trans (h.f5 (by simpa using q))
    f1 := fun q r => by rw [(U.rest 24 (by decide))]; exact (fun q => q.keep hb) (h.f1 (by simpa using q) (by simpa using r))
    f3 := fun q r => by rw [(U.rest 26 (by decide))]; exact (fun q => q.keep hb) (h.f3 (by simpa using q) (by simpa using r))
    f4 := fun q r => by rw [(U.rest 27 (by decide))]; exact (fun q => q.keep hb) (h.f4 (by simpa using q) (by simpa using r))
    f6 := fun _ r => by simp at r
    f7 := fun _ r => by rw [U.got, U.rest 9 (by decide)]; obtain ⟨k, a2, n2, cap, h1, h5⟩ := hv; exact ⟨k, a2, n2, cap, w.heap.size, w'.heap.size, h1, h.old.size, Nat.le_refl _, fun b hb2 => by obtain ⟨b', q1, _, q3⟩ := h.f11 (by simpa using hb2.1) hg; have hb3 := hb2.2; unfold isP at hb3; rw [hb3] at q1; simp at q1; have := q3.low; omega, h5⟩
    f8 := fun q => absurd (show L 8 = true by simpa using q) (by rw [h8]; decide)
    f9 := fun q => absurd (show L 9 = true by simpa using q) (by rw [h9]; decide)
    f10 := fun q => (U.rest 32 (by decide)).trans (h.f10 (by simpa using q))
    f11 := fun q r => by rw [(U.rest 9 (by decide))]; exact (fun q => q.keep hb) (h.f11 (by simpa using q) (by simpa using r))
    a1 := fun q r s t => by rw [(U.rest 9 (by decide)), (U.rest 24 (by decide))]; exact h.a1 (by simpa using q) (by simpa using r) (by simpa using s) (by simpa using t)
    a4 := fun q r s t => by rw [(U.rest 9 (by decide)), (U.rest 27 (by decide))]; exact h.a4 (by simpa using q) (by simpa using r) (by simpa using s) (by simpa using t)
    f12 := fun q => absurd (show L 12 = true by simpa using q) (by rw [hg]; decide)
    f13 := fun q => (U.rest 10 (by decide)).trans (h.f13 (by simpa using q))

theorem RH.s8 {v : Value} (h : RH w0 a0 X Mv vv mc lc n err T Fin L a w) (U : Upd a 22 v a') (hf : a'.defers = a.defers) (hv : v = G a 30) : RH w0 a0 X Mv vv mc lc n err T Fin (fun j => j == 8 || L j) a' w where
    size := U.size.trans h.size
    defs := hf.trans h.defs
    rest := fun j hj => (U.rest j (by intro e; subst e; exact hj (by decide))).trans (h.rest j hj)
    old := h.old
    f0 := fun q => (U.rest 23 (by decide)).trans (h.f0 (by simpa using q))
    f2 := fun q => (U.rest 25 (by decide)).trans (h.f2 (by simpa using q))
    f5 := fun q => (U.rest 28 (by decide)).trans (h.f5 (by simpa using q))
    f1 := fun q r => by rw [(U.rest 24 (by decide))]; exact id (h.f1 (by simpa using q) (by simpa using r))
    f3 := fun q r => by rw [(U.rest 26 (by decide))]; exact id (h.f3 (by simpa using q) (by simpa using r))
    f4 := fun q r => by rw [(U.rest 27 (by decide))]; exact id (h.f4 (by simpa using q) (by simpa using r))
    f6 := fun q r => by rw [(U.rest 29 (by decide))]; exact id (h.f6 (by simpa using q) (by simpa using r))
    f7 := fun q r => by rw [(U.rest 30 (by decide)), (U.rest 9 (by decide))]; have q0 := (h.f7 (by simpa using q) (by simpa using r)); simpa using q0
    f8 := fun _ => by rw [U.got, U.rest 30 (by decide)]; exact hv
    f9 := fun q => by rw [(U.rest 30 (by decide)), (U.rest 31 (by decide))]; exact h.f9 (by simpa using q)
    f10 := fun q => (U.rest 32 (by decide)).trans (h.f10 (by simpa using q))
    f11 := fun q r => by rw [(U.rest 9 (by decide))]; exact id (h.f11 (by simpa using q) (by simpa using r))
    a1 := fun q r s t => by rw [(U.rest 9 (by decide)), (U.rest 24 (by decide))]; exact h.a1 (by simpa using q) (by simpa using r) (by simpa using s) (by simpa using t)
    a4 := fun q r s t => by rw [(U.rest 9 (by decide)), (U.rest 27 (by decide))]; exact h.a4 (by simpa using q) (by simpa using r) (by simpa using s) (by simpa using t)
    f12 := fun q => by rw [(U.rest 9 (by decide))]; exact h.f12 (by simpa using q)
    f13 := fun q => (U.rest 10 (by decide)).trans (h.f13 (by simpa using q))

theorem RH.s9 {v : Value} (h : RH w0 a0 X Mv vv mc lc n err T Fin L a w) (U : Upd a 31 v a') (hf : a'.defers = a.defers) (hv : G a 30 = .tuple #[v, .int .i64 err]) : RH w0 a0 X Mv vv mc lc n err T Fin (fun j => j == 9 || L j) a' w where
    size := U.size.trans h.size
    defs := hf.trans h.defs
    rest := fun j hj => (U.rest j (by intro e; subst e; exact hj (by decide))).trans (h.rest j hj)
    old := h.old
    f0 := fun q => (U.rest 23 (by decide)).trans (h.f0 (by simpa using q))
    f2 := fun q => (U.rest 25 (by decide)).trans (h.f2 (by simpa using q))
    f5 := fun q => (U.rest 28 (by decide)).trans (h.f5 (by simpa using q))
    f1 := fun q r => by rw [(U.rest 24 (by decide))]; exact id (h.f1 (by simpa using q) (by simpa using r))
    f3 := fun q r => by rw [(U.rest 26 (by decide))]; exact id (h.f3 (by simpa using q) (by simpa using r))
    f4 := fun q r => by rw [(U.rest 27 (by decide))]; exact id (h.f4 (by simpa using q) (by simpa using r))
    f6 := fun q r => by rw [(U.rest 29 (by decide))]; exact id (h.f6 (by simpa using q) (by simpa using r))
    f7 := fun q r => by rw [(U.rest 30 (by decide)), (U.rest 9 (by decide))]; have q0 := (h.f7 (by simpa using q) (by simpa using r)); simpa using q0
    f8 := fun q => by rw [(U.rest 22 (by decide)), (U.rest 30 (by decide))]; exact h.f8 (by simpa using q)
    f9 := fun _ => ⟨v, by rw [U.rest 30 (by decide)]; exact hv, U.got⟩
    f10 := fun q => (U.rest 32 (by decide)).trans (h.f10 (by simpa using q))
    f11 := fun q r => by rw [(U.rest 9 (by decide))]; exact id (h.f11 (by simpa using q) (by simpa using r))
    a1 := fun q r s t => by rw [(U.rest 9 (by decide)), (U.rest 24 (by decide))]; exact h.a1 (by simpa using q) (by simpa using r) (by simpa using s) (by simpa using t)
    a4 := fun q r s t => by rw [(U.rest 9 (by decide)), (U.rest 27 (by decide))]; exact h.a4 (by simpa using q) (by simpa using r) (by simpa using s) (by simpa using t)
    f12 := fun q => by rw [(U.rest 9 (by decide))]; exact h.f12 (by simpa using q)
    f13 := fun q => (U.rest 10 (by decide)).trans (h.f13 (by simpa using q))

theorem RH.s10 {v : Value} (h : RH w0 a0 X Mv vv mc lc n err T Fin L a w) (U : Upd a 32 v a') (hf : a'.defers = a.defers) (hv : v = .int .i64 err) : RH w0 a0 X Mv vv mc lc n err T Fin (fun j => j == 10 || L j) a' w where
    size := U.size.trans h.size
    defs := hf.trans h.defs
    rest := fun j hj => (U.rest j (by intro e; subst e; exact hj (by decide))).trans (h.rest j hj)
    old := h.old
    f0 := fun q => (U.rest 23 (by decide)).trans (h.f0 (by simpa using q))
    f2 := fun q => (U.rest 25 (by decide)).trans (h.f2 (by simpa using q))
    f5 := fun q => (U.rest 28 (by decide)).trans (h.f5 (by simpa using q))
    f1 := fun q r => by rw [(U.rest 24 (by decide))]; exact id (h.f1 (by simpa using q) (by simpa using r))
    f3 := fun q r => by rw [(U.rest 26 (by decide))]; exact id (h.f3 (by simpa using q) (by simpa using r))
    f4 := fun q r => by rw [(U.rest 27 (by decide))]; exact id (h.f4 (by simpa using q) (by simpa using r))
    f6 := fun q r => by rw [(U.rest 29 (by decide))]; exact id (h.f6 (by simpa using q) (by simpa using r))
    f7 := fun q r => by rw [(U.rest 30 (by decide)), (U.rest 9 (by decide))]; have q0 := (h.f7 (by simpa using q) (by simpa using r)); simpa using q0
    f8 := fun q => by rw [(U.rest 22 (by decide)), (U.rest 30 (by decide))]; exact h.f8 (by simpa using q)
    f9 := fun q => by rw [(U.rest 30 (by decide)), (U.rest 31 (by decide))]; exact h.f9 (by simpa using q)
    f10 := fun _ => U.got.trans hv
    f11 := fun q r => by rw [(U.rest 9 (by decide))]; exact id (h.f11 (by simpa using q) (by simpa using r))
    a1 := fun q r s t => by rw [(U.rest 9 (by decide)), (U.rest 24 (by decide))]; exact h.a1 (by simpa using q) (by simpa using r) (by simpa using s) (by simpa using t)
    a4 := fun q r s t => by rw [(U.rest 9 (by decide)), (U.rest 27 (by decide))]; exact h.a4 (by simpa using q) (by simpa using r) (by simpa using s) (by simpa using t)
    f12 := fun q => by rw [(U.rest 9 (by decide))]; exact h.f12 (by simpa using q)
    f13 := fun q => (U.rest 10 (by decide)).trans (h.f13 (by simpa using q))

theorem RH.s11 {v : Value} (h : RH w0 a0 X Mv vv mc lc n err T Fin L a w) (U : Upd a 9 v a') (hf : a'.defers = a.defers) (hb : Below w.heap.size w w') (hg : L 12 = false) (hv : P9 w0.heap.size w' v) (hn : v = .pointer (some ⟨w.heap.size, 0, none⟩)) : RH w0 a0 X Mv vv mc lc n err T Fin (fun j => j == 11 || L j) a' w' where
    size := U.size.trans h.size
    defs := hf.trans h.defs
    rest := fun j hj => (U.rest j (by intro e; subst e; exact hj (by decide))).trans (h.rest j hj)
    old := (h.old.trans (hb.mono h.old.size))
    f0 := fun q => (U.rest 23 (by decide)).trans (h.f0 (by simpa using q))
    f2 := fun q => (U.rest 25 (by decide)).trans (h.f2 (by simpa using q))
    f5 := fun q => (U.rest 28 (by decide)).trans (h.f5 (by simpa using q))
    f1 := fun q r => by rw [(U.rest 24 (by decide))]; exact (fun q => q.keep hb) (h.f1 (by simpa using q) (by simpa using r))
    f3 := fun q r => by rw [(U.rest 26 (by decide))]; exact (fun q => q.keep hb) (h.f3 (by simpa using q) (by simpa using r))
    f4 := fun q r => by rw [(U.rest 27 (by decide))]; exact (fun q => q.keep hb) (h.f4 (by simpa using q) (by simpa using r))
    f6 := fun q r => by rw [(U.rest 29 (by decide))]; exact (fun q => q.keep hb) (h.f6 (by simpa using q) (by simpa using r))
    f7 := fun q r => by rw [U.rest 30 (by decide), U.got]; obtain ⟨k, a2, n2, cap, s, e, h1, h2, h3, h4, h5⟩ := h.f7 (by simpa using q) (by simpa using r); exact ⟨k, a2, n2, cap, s, e, h1, h2, Nat.le_trans h3 hb.size, fun b hb2 => by have hb3 := hb2.2; unfold isP at hb3; rw [hn] at hb3; simp at hb3; omega, fun he => MemTP.keep (fun b hq => ⟨hq, fun o => hb.cell (p := ⟨b, o, none⟩) (by show b < w.heap.size; omega)⟩) (h5 he)⟩
    f8 := fun q => by rw [(U.rest 22 (by decide)), (U.rest 30 (by decide))]; exact h.f8 (by simpa using q)
    f9 := fun q => by rw [(U.rest 30 (by decide)), (U.rest 31 (by decide))]; exact h.f9 (by simpa using q)
    f10 := fun q => (U.rest 32 (by decide)).trans (h.f10 (by simpa using q))
    f11 := fun _ _ => by rw [U.got]; exact hv
    a1 := fun _ _ q r b hb2 => by rw [U.got] at hb2; rw [U.rest 24 (by decide)]; intro e; have := (h.f1 (by simpa using q) (by simpa using r)).own b e; unfold isP at hb2; rw [hn] at hb2; simp at hb2 <;> omega
    a4 := fun _ _ q r b hb2 => by rw [U.got] at hb2; rw [U.rest 27 (by decide)]; intro e; have := (h.f4 (by simpa using q) (by simpa using r)).own b e; unfold isP at hb2; rw [hn] at hb2; simp at hb2 <;> omega
    f12 := fun q => absurd (show L 12 = true by simpa using q) (by rw [hg]; decide)
    f13 := fun q => (U.rest 10 (by decide)).trans (h.f13 (by simpa using q))

theorem RH.s13 {v : Value} (h : RH w0 a0 X Mv vv mc lc n err T Fin L a w) (U : Upd a 10 v a') (hf : a'.defers = a.defers) (hv : v = .int .i64 err) : RH w0 a0 X Mv vv mc lc n err T Fin (fun j => j == 13 || L j) a' w where
    size := U.size.trans h.size
    defs := hf.trans h.defs
    rest := fun j hj => (U.rest j (by intro e; subst e; exact hj (by decide))).trans (h.rest j hj)
    old := h.old
    f0 := fun q => (U.rest 23 (by decide)).trans (h.f0 (by simpa using q))
    f2 := fun q => (U.rest 25 (by decide)).trans (h.f2 (by simpa using q))
    f5 := fun q => (U.rest 28 (by decide)).trans (h.f5 (by simpa using q))
    f1 := fun q r => by rw [(U.rest 24 (by decide))]; exact id (h.f1 (by simpa using q) (by simpa using r))
    f3 := fun q r => by rw [(U.rest 26 (by decide))]; exact id (h.f3 (by simpa using q) (by simpa using r))
    f4 := fun q r => by rw [(U.rest 27 (by decide))]; exact id (h.f4 (by simpa using q) (by simpa using r))
    f6 := fun q r => by rw [(U.rest 29 (by decide))]; exact id (h.f6 (by simpa using q) (by simpa using r))
    f7 := fun q r => by rw [(U.rest 30 (by decide)), (U.rest 9 (by decide))]; have q0 := (h.f7 (by simpa using q) (by simpa using r)); simpa using q0
    f8 := fun q => by rw [(U.rest 22 (by decide)), (U.rest 30 (by decide))]; exact h.f8 (by simpa using q)
    f9 := fun q => by rw [(U.rest 30 (by decide)), (U.rest 31 (by decide))]; exact h.f9 (by simpa using q)
    f10 := fun q => (U.rest 32 (by decide)).trans (h.f10 (by simpa using q))
    f11 := fun q r => by rw [(U.rest 9 (by decide))]; exact id (h.f11 (by simpa using q) (by simpa using r))
    a1 := fun q r s t => by rw [(U.rest 9 (by decide)), (U.rest 24 (by decide))]; exact h.a1 (by simpa using q) (by simpa using r) (by simpa using s) (by simpa using t)
    a4 := fun q r s t => by rw [(U.rest 9 (by decide)), (U.rest 27 (by decide))]; exact h.a4 (by simpa using q) (by simpa using r) (by simpa using s) (by simpa using t)
    f12 := fun q => by rw [(U.rest 9 (by decide))]; exact h.f12 (by simpa using q)
    f13 := fun _ => U.got.trans hv

theorem Bx2.grown {b : Nat} {u v : Value} {r : Option Nat} (h : Bx2 w b u v) (hb : w.grownBy w' r) (ne : some b ≠ r) : Bx2 w' b u v := by
  have bl := hb.block b h.low ne
  have c : ∀ o, w'.cell? ⟨b, o, none⟩ = w.cell? ⟨b, o, none⟩ := fun o => World.cell?_of_block (a := ⟨b, o, none⟩) bl
  have f : ∀ o, w'.frozen? ⟨b, o, none⟩ = w.frozen? ⟨b, o, none⟩ := fun o => World.frozen?_of_block (a := ⟨b, o, none⟩) bl
  exact ⟨Nat.lt_of_lt_of_le h.low hb.size, by rw [c]; exact h.at0, by rw [c]; exact h.at1, by rw [f]; exact h.th0, by rw [f]; exact h.th1⟩

theorem RH.s4 {v : Value} (h : RH w0 a0 X Mv vv mc lc n err T Fin L a w) (U : Upd a 27 v a') (hf : a'.defers = a.defers) (hO : Below w0.heap.size w0 w') (hgr : w.grownBy w' (G a 24).ownBlock) (hat : v.ownBlock = (G a 24).ownBlock ∨ v.ownBlock = some w.heap.size) (hv : OV w0.heap.size w' v 1 mc) (hg : L 12 = false) (h1 : L 1 = true) (h4 : L 4 = false) (h6 : L 6 = false) (h7 : L 7 = false) : RH w0 a0 X Mv vv mc lc n err T Fin (fun j => j == 4 || L j) a' w' where
    size := U.size.trans h.size
    defs := hf.trans h.defs
    rest := fun j hj => (U.rest j (by intro e; subst e; exact hj (by decide))).trans (h.rest j hj)
    old := hO
    f0 := fun q => (U.rest 23 (by decide)).trans (h.f0 (by simpa using q))
    f2 := fun q => (U.rest 25 (by decide)).trans (h.f2 (by simpa using q))
    f5 := fun q => (U.rest 28 (by decide)).trans (h.f5 (by simpa using q))
    f1 := fun _ r => by simp at r
    f3 := fun _ r => by simp at r
    f4 := fun _ _ => by rw [U.got]; exact hv
    f6 := fun q _ => absurd (show L 6 = true by simpa using q) (by rw [h6]; decide)
    f7 := fun q _ => absurd (show L 7 = true by simpa using q) (by rw [h7]; decide)
    f8 := fun q => by rw [(U.rest 22 (by decide)), (U.rest 30 (by decide))]; exact h.f8 (by simpa using q)
    f9 := fun q => by rw [(U.rest 30 (by decide)), (U.rest 31 (by decide))]; exact h.f9 (by simpa using q)
    f10 := fun q => (U.rest 32 (by decide)).trans (h.f10 (by simpa using q))
    f11 := fun q _ => by rw [U.rest 9 (by decide)]; obtain ⟨b, q1, q2, q3⟩ := h.f11 (by simpa using q) hg; exact ⟨b, q1, q2, q3.grown hgr (fun e => h.a1 (by simpa using q) hg h1 h4 b q1 e.symm)⟩
    a1 := fun _ _ _ t => by simp at t
    a4 := fun q _ _ _ b hb2 => by rw [U.rest 9 (by decide)] at hb2; rw [U.got]; intro e; rcases hat with k | k; exact h.a1 (by simpa using q) hg h1 h4 b hb2 (k.symm.trans e); obtain ⟨b', q1, _, q3⟩ := h.f11 (by simpa using q) hg; unfold isP at hb2; rw [hb2] at q1; simp at q1; have := q3.low; rw [e] at k; simp at k; omega
    f12 := fun q => absurd (show L 12 = true by simpa using q) (by rw [hg]; decide)
    f13 := fun q => (U.rest 10 (by decide)).trans (h.f13 (by simpa using q))

theorem RH.s6 {v : Value} (h : RH w0 a0 X Mv vv mc lc n err T Fin L a w) (U : Upd a 29 v a') (hf : a'.defers = a.defers) (hO : Below w0.heap.size w0 w') (hgr : w.grownBy w' (G a 27).ownBlock) (hv : OV w0.heap.size w' v (1 + n) (mc ++ lc)) (hg : L 12 = false) (h4 : L 4 = true) (h6 : L 6 = false) (h7 : L 7 = false) : RH w0 a0 X Mv vv mc lc n err T Fin (fun j => j == 6 || L j) a' w' where
    size := U.size.trans h.size
    defs := hf.trans h.defs
    rest := fun j hj => (U.rest j (by intro e; subst e; exact hj (by decide))).trans (h.rest j hj)
    old := hO
    f0 := fun q => (U.rest 23 (by decide)).trans (h.f0 (by simpa using q))
    f2 := fun q => (U.rest 25 (by decide)).trans (h.f2 (by simpa using q))
    f5 := fun q => (U.rest 28 (by decide)).trans (h.f5 (by simpa using q))
    f1 := fun _ r => absurd (show L 4 = false by simpa using r) (by rw [h4]; decide)
    f3 := fun _ r => absurd (show L 4 = false by simpa using r) (by rw [h4]; decide)
    f4 := fun _ r => by simp at r
    f6 := fun _ _ => by rw [U.got]; exact hv
    f7 := fun q _ => absurd (show L 7 = true by simpa using q) (by rw [h7]; decide)
    f8 := fun q => by rw [(U.rest 22 (by decide)), (U.rest 30 (by decide))]; exact h.f8 (by simpa using q)
    f9 := fun q => by rw [(U.rest 30 (by decide)), (U.rest 31 (by decide))]; exact h.f9 (by simpa using q)
    f10 := fun q => (U.rest 32 (by decide)).trans (h.f10 (by simpa using q))
    f11 := fun q _ => by rw [U.rest 9 (by decide)]; obtain ⟨b, q1, q2, q3⟩ := h.f11 (by simpa using q) hg; exact ⟨b, q1, q2, q3.grown hgr (fun e => h.a4 (by simpa using q) hg h4 h6 b q1 e.symm)⟩
    a1 := fun _ _ _ t => absurd (show L 4 = false by simpa using t) (by rw [h4]; decide)
    a4 := fun _ _ _ t => by simp at t
    f12 := fun q => absurd (show L 12 = true by simpa using q) (by rw [hg]; decide)
    f13 := fun q => (U.rest 10 (by decide)).trans (h.f13 (by simpa using q))

theorem RH.s12 (h : RH w0 a0 X Mv vv mc lc n err T Fin L a w) (hO : Below w0.heap.size w0 w') (h4 : L 4 = true) (h6 : L 6 = true) (h7 : L 7 = true) (hfin : Fin (G a 9) w') : RH w0 a0 X Mv vv mc lc n err T Fin (fun j => j == 12 || L j) a w' where
    size := h.size
    defs := h.defs
    rest := h.rest
    old := hO
    f0 := fun q => h.f0 (by simpa using q)
    f2 := fun q => h.f2 (by simpa using q)
    f5 := fun q => h.f5 (by simpa using q)
    f1 := fun _ r => absurd (show L 4 = false by simpa using r) (by rw [h4]; decide)
    f3 := fun _ r => absurd (show L 4 = false by simpa using r) (by rw [h4]; decide)
    f4 := fun _ r => absurd (show L 6 = false by simpa using r) (by rw [h6]; decide)
    f6 := fun _ r => absurd (show L 7 = false by simpa using r) (by rw [h7]; decide)
    f7 := fun _ r => by simp at r
    f8 := fun q => h.f8 (by simpa using q)
    f9 := fun q => h.f9 (by simpa using q)
    f10 := fun q => h.f10 (by simpa using q)
    f11 := fun _ r => by simp at r
    a1 := fun _ r => by simp at r
    a4 := fun _ r => by simp at r
    f12 := fun _ => hfin
    f13 := fun q => h.f13 (by simpa using q)
theorem RH.start (h1 : a0.tmps.size = 42) (h2 : a0.defers = []) (h3 : Below w0.heap.size w0 w) : RH w0 a0 X Mv vv mc lc n err T Fin (fun _ => false) a0 w :=
  ⟨h1, h2, fun _ _ => rfl, h3, (fun q => absurd q (by simp)), (fun q => absurd q (by simp)), (fun q => absurd q (by simp)), (fun q => absurd q (by simp)), (fun q => absurd q (by simp)), (fun q => absurd q (by simp)), (fun q => absurd q (by simp)), (fun q => absurd q (by simp)), (fun q => absurd q (by simp)), (fun q => absurd q (by simp)), (fun q => absurd q (by simp)), (fun q => absurd q (by simp)), (fun q => absurd q (by simp)), (fun q => absurd q (by simp)), (fun q => absurd q (by simp)), (fun q => absurd q (by simp))⟩

end
end Go.Proofs.YtdgojpjmhalilaaGreatDoor
