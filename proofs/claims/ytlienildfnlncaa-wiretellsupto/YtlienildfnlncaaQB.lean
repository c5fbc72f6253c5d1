/- The document's tree, in plain words. -/
import Derived.Test.YtlienildfnlncaaQA
namespace Go.Proofs.Ytlienildfnlncaa
open Go.RowKit
open Go.Lib (uvarint zigzag)

def kidsR (f : List UInt8 → Option (WT × List UInt8)) : Nat → List UInt8 → Option (List WT × List UInt8)
  | 0, l => some ([], l)
  | c + 1, l => (f l).bind fun r => (kidsR f c r.2).map fun q => (r.1 :: q.1, q.2)
def treeR (N : Nat) : Nat → List UInt8 → Option (WT × List UInt8)
  | 0, _ => none
  | d + 1, l => if (headF ⟨l, 0, false⟩).2.bad = true ∨ N < (headF ⟨l, 0, false⟩).1.2.2.2 then none else
    (kidsR (treeR N d) (headF ⟨l, 0, false⟩).1.2.2.2 (headF ⟨l, 0, false⟩).2.l).map fun q => (.mk ((headF ⟨l, 0, false⟩).1.1 : Int) (zagF (headF ⟨l, 0, false⟩).1.2.1) ⟨(headF ⟨l, 0, false⟩).1.2.2.1.toArray⟩ q.1, q.2)
theorem kr_good {f : List UInt8 → Option (WT × List UInt8)} {P : WT → Prop} (hf : ∀ l T r, f l = some (T, r) → l = enc T ++ r ∧ P T) : ∀ (c : Nat) (l : List UInt8) (ks : List WT) (r : List UInt8), kidsR f c l = some (ks, r) → l = encL ks ++ r ∧ (∀ t ∈ ks, P t) ∧ ks.length = c
  | 0, l, ks, r, h => by
    rw [kidsR] at h
    obtain ⟨rfl, rfl⟩ := Prod.mk.inj (Option.some.inj h)
    refine ⟨?_, (fun t ht => nomatch ht), rfl⟩
    rw [encL]
    rfl
  | c + 1, l, ks, r, h => by
    rw [kidsR, Option.bind_eq_some_iff] at h
    obtain ⟨⟨T, l1⟩, h1, h2⟩ := h
    rw [Option.map_eq_some_iff] at h2
    obtain ⟨⟨us, l2⟩, h3, h4⟩ := h2
    obtain ⟨rfl, rfl⟩ := Prod.mk.inj h4
    obtain ⟨a1, a2⟩ := hf l T l1 h1
    obtain ⟨b1, b2, b3⟩ := kr_good hf c l1 us l2 h3
    refine ⟨?_, ?_, by simp [b3]⟩
    · rw [a1, encL, List.append_assoc, ← b1]
    · intro t ht
      rcases List.mem_cons.1 ht with e | e
      · rw [e]; exact a2
      · exact b2 t e
theorem tr_good (N : Nat) : ∀ (d : Nat), d ≤ 40 → ∀ (l : List UInt8) (T : WT) (r : List UInt8), treeR N d l = some (T, r) → l = enc T ++ r ∧ okW T (41 - d) := by
  intro d
  induction d with
  | zero => intro _ l T r h; rw [treeR] at h; cases h
  | succ d ih =>
    intro hd l T r h
    rw [treeR] at h
    split at h
    · cases h
    · rename_i q
      have hb : (headF ⟨l, 0, false⟩).2.bad = false := by
        cases z : (headF ⟨l, 0, false⟩).2.bad with
        | true => exact absurd (.inl z) q
        | false => rfl
      rw [Option.map_eq_some_iff] at h
      obtain ⟨⟨ks, r'⟩, h1, h2⟩ := h
      obtain ⟨rfl, rfl⟩ := Prod.mk.inj h2
      obtain ⟨g, g1, g2, g3, g4, g5, g6, g7⟩ := headF_good hb
      obtain ⟨k1, k2, k3⟩ := kr_good (P := fun t => okW t (41 - d)) (fun l T r h => ih (by omega) l T r h) _ _ _ _ h1
      have hlt := g.toNat_lt
      refine ⟨?_, ?_⟩
      · rw [enc, zig_zag, g1, k3]
        refine (show l = _ from g5).trans ?_
        simp only [List.cons_append, List.append_assoc]
        rw [← k1]
        congr 1
        simp [Nat.toUInt8]
      · rw [okW, g1]
        have z := zag_bd g2
        refine ⟨by omega, by omega, by omega, z.1, z.2, g3, by rw [k3]; exact g4, ?_⟩
        rw [show 41 - (d + 1) + 1 = 41 - d by omega]
        exact okL_of _ _ k2
theorem encL_len : ∀ ks : List WT, ks.length ≤ (encL ks).length
  | [] => by rw [encL]; exact Nat.le_refl _
  | t :: ts => by
    have := encL_len ts
    have h := List.length_pos_iff.2 (enc_ne t)
    rw [encL, List.length_append, List.length_cons]
    omega
mutual
theorem tr_read (N : Nat) : ∀ (T : WT) (d : Nat) (r : List UInt8), okW T d → (enc T ++ r).length ≤ N → treeR N (41 - d) (enc T ++ r) = some (T, r)
  | .mk g n t ks, d, r, hk, hN => by
    rw [okW] at hk
    obtain ⟨D, hD⟩ : ∃ D, 41 - d = D + 1 := ⟨40 - d, by omega⟩
    have e : (g.toNat : Int) = g := by omega
    have hh := headF_read g.toNat n t.data.toList ks.length (encL ks ++ r) 0 false (by omega) hk.2.2.2.1 hk.2.2.2.2.1 hk.2.2.2.2.2.1 hk.2.2.2.2.2.2.1
    have hs : enc (.mk g n t ks) ++ r = g.toNat.toUInt8 :: (uvarint (zigzag n) ++ (uvarint t.data.toList.length ++ (t.data.toList ++ (uvarint ks.length ++ (encL ks ++ r))))) := by
      rw [enc]
      simp only [List.cons_append, List.append_assoc]
      rfl
    have hkN : (encL ks ++ r).length ≤ N := by
      rw [hs] at hN
      simp only [List.length_cons, List.length_append] at hN ⊢
      omega
    have hkl : ks.length ≤ N := by
      have := encL_len ks
      rw [List.length_append] at hkN
      omega
    rw [hD, treeR, hs, hh]
    have q := kr_read N ks (d + 1) r hk.2.2.2.2.2.2.2 hkN
    rw [show 41 - (d + 1) = D by omega] at q
    simp only
    rw [if_neg (by simp; omega), q]
    simp only [Option.map_some, zag_zig, e]
theorem kr_read (N : Nat) : ∀ (ks : List WT) (d : Nat) (r : List UInt8), okL ks d → (encL ks ++ r).length ≤ N → kidsR (treeR N (41 - d)) ks.length (encL ks ++ r) = some (ks, r)
  | [], d, r, hk, hN => by
    rw [encL]
    rfl
  | t :: ts, d, r, hk, hN => by
    rw [okL] at hk
    rw [encL, List.append_assoc] at hN
    have hN2 : (encL ts ++ r).length ≤ N := by
      simp only [List.length_append] at hN ⊢
      omega
    rw [List.length_cons, kidsR, encL, List.append_assoc, tr_read N t d (encL ts ++ r) hk.1 hN]
    simp only [Option.bind_some]
    rw [kr_read N ts d r hk.2 hN2]
    rfl
end
theorem suffix_drop {l a r : List UInt8} {p : Nat} (hp : p ≤ l.length) (h : l.drop p = a ++ r) : l.drop (l.length - r.length) = r ∧ p ≤ l.length - r.length ∧ r.length ≤ l.length := by
  have hlen := congrArg List.length h
  simp only [List.length_drop, List.length_append] at hlen
  have e : l.length - r.length = p + a.length := by omega
  refine ⟨?_, by omega, by omega⟩
  rw [e, ← List.drop_drop, h, List.drop_left]
/-- a number at a place: none, or it ends at a place -/
theorem num_at (l : List UInt8) (p : Nat) (hp : p ≤ l.length) : ((numF ⟨l.drop p, 0, false⟩).2.bad = true ∧ rnumR l p = (0, -1)) ∨
    ∃ n p', numF ⟨l.drop p, 0, false⟩ = (n, ⟨l.drop p', 0, false⟩) ∧ p ≤ p' ∧ p' ≤ l.length ∧ n < 18446744073709551616 ∧ rnumR l p = ((n : Int), (p' : Int)) := by
  cases hb : (numF ⟨l.drop p, 0, false⟩).2.bad with
  | true => exact .inl ⟨rfl, rn_no hb⟩
  | false =>
    obtain ⟨h1, h2, h3, h4⟩ := numF_good hb
    obtain ⟨s1, s2, s3⟩ := suffix_drop hp h1
    have hstate : (numF ⟨l.drop p, 0, false⟩).2 = ⟨l.drop (l.length - (numF ⟨l.drop p, 0, false⟩).2.l.length), 0, false⟩ := by
      rw [s1]
      have hS : ∀ s : RS, s.bad = false → s.k = 0 → s = ⟨s.l, 0, false⟩ := by
        rintro ⟨a, b, c⟩ q1 q2
        simp only at q1 q2
        rw [q1, q2]
      exact hS _ hb h3
    refine .inr ⟨_, _, Prod.ext rfl hstate, s2, by omega, h2, ?_⟩
    rw [rn_go (n := (numF ⟨l.drop p, 0, false⟩).1) (s := (numF ⟨l.drop p, 0, false⟩).2) rfl hb]
    congr 1
    omega

/-- where the document's reader of a tree is, in its loop -/
structure TR (w : World) (Z Y : Nat) (z0 z1 z2 z3 c0 c1 c2 : Value) (wr : World) (sv : Value) (acc : List WT) (css : List (Array Value)) : Prop where
  bx : Bx wr Y c0 c1 c2 sv
  bz : Bx wr Z z0 z1 z2 z3
  own : wr.ownsRow (Y + 1) 24 4 sv acc.length (css.flatMap Array.toList)
  each : MemEach (fun b => Y + 1 ≤ b ∧ b < wr.heap.size ∧ sv.ownBlock ≠ some b) wr acc css
  bel : Below w.heap.size w wr
  at' : w.heap.size ≤ Z ∧ Z < Y
theorem TR.keep {w : World} {Z Y : Nat} {z0 z1 z2 z3 c0 c1 c2 : Value} {wr w2 : World} {sv : Value} {acc : List WT} {css : List (Array Value)} (h : TR w Z Y z0 z1 z2 z3 c0 c1 c2 wr sv acc css) (hb : Below wr.heap.size wr w2) : TR w Z Y z0 z1 z2 z3 c0 c1 c2 w2 sv acc css :=
  ⟨h.bx.keep hb, h.bz.keep hb, own_same h.own (fun k hk => hb.block k (World.ownsRow.lt h.own k hk).2), h.each.keep (fun b hb2 => ⟨⟨hb2.1, Nat.lt_of_lt_of_le hb2.2.1 hb.size, hb2.2.2⟩, hb.block b hb2.2.1⟩), below_via h.bel hb, h.at'⟩
theorem TR.next {w : World} {Z Y : Nat} {z0 z1 z2 z3 c0 c1 c2 : Value} {wr w2 w3 : World} {sv v3 : Value} {acc : List WT} {css : List (Array Value)} {U : WT} {e0 e1 e2 e3 : Value} {t : TypeId}
    (h : TR w Z Y z0 z1 z2 z3 c0 c1 c2 wr sv acc css) (hb : Below wr.heap.size wr w2) (hM : MemWP (fun b => wr.heap.size ≤ b ∧ b < w2.heap.size) w2 U #[e0, e1, e2, e3])
    (hown : w3.ownsRow (Y + 1) 24 4 v3 (acc.length + 1) (css.flatMap Array.toList ++ [e0, e1, e2, e3])) (hgrow : (w2.alloc (.cells #[e0, e1, e2, e3] t)).grownBy w3 sv.ownBlock) (hat : v3.ownBlock = sv.ownBlock ∨ v3.ownBlock = some (w2.alloc (.cells #[e0, e1, e2, e3] t)).heap.size) :
    TR w Z Y z0 z1 z2 z3 c0 c1 c2 (w3.setCell ⟨Y, 3, none⟩ v3) v3 (acc ++ [U]) (css ++ [#[e0, e1, e2, e3]]) := by
  obtain ⟨a3, a4⟩ := h.at'
  have hY := h.bx.low
  have s1 := h.bel.size
  have s2 := hb.size
  have s3 := hgrow.size
  simp at s3
  have s4 : (w3.setCell ⟨Y, 3, none⟩ v3).heap.size = w3.heap.size := by simp [World.setCell]
  have hsv : ∀ k, sv.ownBlock = some k → Y + 1 ≤ k ∧ k < wr.heap.size := fun k hk => World.ownsRow.lt h.own k hk
  have hal : ∀ b, b < w2.heap.size → (w2.alloc (.cells #[e0, e1, e2, e3] t)).heap[b]? = w2.heap[b]? := fun b h => heap_alloc_old w2 _ h
  have hset : ∀ b, b ≠ Y → (w3.setCell ⟨Y, 3, none⟩ v3).heap[b]? = w3.heap[b]? := fun b h => Below.heap_setCell w3 ⟨Y, 3, none⟩ v3 b h
  have hge : ∀ b, b < w2.heap.size → sv.ownBlock ≠ some b → w3.heap[b]? = w2.heap[b]? := fun b h1 h2 => (hgrow.block b (by simp; omega) (fun e => h2 e.symm)).trans (hal b h1)
  have hlow : ∀ b, b ≤ Y → w3.heap[b]? = w2.heap[b]? := fun b hb => hge b (by omega) (fun e => by have := (hsv _ e).1; omega)
  have hv3 : ∀ b, b < w2.heap.size → sv.ownBlock ≠ some b → v3.ownBlock ≠ some b := by
    intro b h1 h2 h3
    rcases hat with h | h
    · exact h2 (h.symm.trans h3)
    · rw [h3] at h
      simp at h
      omega
  refine ⟨?_, ?_, ?_, ?_, ?_, h.at'⟩
  · exact ((h.bx.keep hb).same (hlow Y (Nat.le_refl _)) (by omega)).set3 v3
  · exact (h.bz.keep hb).same ((hset Z (by omega)).trans (hlow Z (by omega))) (by rw [s4]; omega)
  · rw [List.flatMap_append, List.length_append]
    exact ownsRow_setCell_below hown (Nat.lt_succ_self Y) _
  · refine MemEach.snoc (hM.keepB (fun b hb2 => ?_)) (h.each.keep (fun b hb2 => ?_))
    · have hn : sv.ownBlock ≠ some b := fun e => by have := (hsv _ e).2; omega
      exact ⟨⟨by omega, by rw [s4]; omega, hv3 b hb2.2 hn⟩, (hset b (by omega)).trans (hge b hb2.2 hn)⟩
    · exact ⟨⟨hb2.1, by rw [s4]; omega, hv3 b (by omega) hb2.2.2⟩, (hset b (by omega)).trans ((hge b (by omega) hb2.2.2).trans (hb.block b hb2.2.1))⟩
  · refine ⟨hgrow.os.trans (hb.os.trans h.bel.os), hgrow.tape.trans (hb.tape.trans h.bel.tape), hgrow.output.trans (hb.output.trans h.bel.output), by rw [s4]; omega, fun k hk => ?_⟩
    exact (hset k (by omega)).trans ((hlow k (by omega)).trans ((hb.block k (by omega)).trans (h.bel.block k hk)))

/-- what the document's tree tells -/
def RTok (w w' : World) (l : List UInt8) (r : Option (WT × List UInt8)) (cs : Array Value) (q : Int) : Prop := match r with
  | none => q = -1 ∧ MemWP (fun b => w.heap.size ≤ b ∧ b < w'.heap.size) w' zeroT cs
  | some (T, rest) => (∃ p' : Nat, rest = l.drop p' ∧ p' ≤ l.length ∧ q = (p' : Int)) ∧ MemWP (fun b => w.heap.size ≤ b ∧ b < w'.heap.size) w' T cs
def PostRT (w : World) (l : List UInt8) (r : Option (WT × List UInt8)) (e : Ending) (w' : World) : Prop := ∃ cs q, e = .returned (.tuple #[.agg cs, .int .i64 q]) ∧ RTok w w' l r cs q ∧ Below w.heap.size w w'
def RTreeC (d : Nat) : Prop := ∀ (w : World) (g off cap p : Nat) (l : List UInt8), l.length ≤ 100000 → l.length < cap → BC w g off l → g < w.heap.size → p ≤ l.length →
  Calls Try.prog 25 #[.slice (some ⟨g, off, none⟩) l.length cap, .int .i64 (p : Int), .int .i64 (41 - (d : Int))] w (PostRT w l (treeR l.length d (l.drop p)))
theorem tr_bad {N d : Nat} {l : List UInt8} (h : (headF ⟨l, 0, false⟩).2.bad = true) : treeR N (d + 1) l = none := by rw [treeR, if_pos (.inl h)]
theorem head_bad1 {l : List UInt8} {b : UInt8} {r : List UInt8} (hl : l = b :: r) (h : (numF ⟨r, 0, false⟩).2.bad = true) : (headF ⟨l, 0, false⟩).2.bad = true := by
  cases q : (headF ⟨l, 0, false⟩).2.bad with
  | true => rfl
  | false =>
    unfold headF at q
    rw [hl, next_cons] at q
    simp only at q
    have c4 := (numF_good (textF_good (numF_good q).2.2.2).2.2.2).2.2.2
    rw [c4] at h
    cases h
end Go.Proofs.Ytlienildfnlncaa
