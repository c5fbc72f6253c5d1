/- Trees as bytes, in plain words: what is written, what is wrong, what is read. -/
import Derived.Lib.Varint
import Derived.Lib.AppendStr
namespace Go.Proofs.Ytlienildfnlncaa
open Go.Lib (uvarint zigzag uvarint_small uvarint_big)

inductive WT where
  | mk (tag n : Int) (t : ByteArray) (ks : List WT)
def WT.tag : WT → Int | .mk g _ _ _ => g
def WT.num : WT → Int | .mk _ n _ _ => n
def WT.text : WT → ByteArray | .mk _ _ t _ => t
def WT.kids : WT → List WT | .mk _ _ _ ks => ks

mutual
def enc : WT → List UInt8
  | .mk g n t ks => g.toNat.toUInt8 :: (uvarint (zigzag n) ++ (uvarint t.size ++ (t.data.toList ++ (uvarint ks.length ++ encL ks))))
def encL : List WT → List UInt8
  | [] => []
  | t :: ts => enc t ++ encL ts
end
mutual
def cnt : WT → Nat
  | .mk _ _ _ ks => cntL ks + 1
def cntL : List WT → Nat
  | [] => 0
  | t :: ts => cnt t + cntL ts
end
mutual
/-- tags are bytes, not too deep, numbers of 64 bits, texts and lists that can be -/
def okW : WT → Nat → Prop
  | .mk g n t ks, d => d ≤ 40 ∧ 0 ≤ g ∧ g ≤ 255 ∧ -9223372036854775808 ≤ n ∧ n ≤ 9223372036854775807 ∧ t.size < 18446744073709551616 ∧ ks.length < 18446744073709551616 ∧ okL ks (d + 1)
def okL : List WT → Nat → Prop
  | [], _ => True
  | t :: ts, d => okW t d ∧ okL ts d
end
mutual
/-- what is wrong, and how many trees there were so far -/
def wrongW : WT → Nat → Nat → Int × Nat
  | .mk g _ _ ks, d, c => if 5000 < c + 1 ∨ 40 < d then (4, c + 1) else if g < 0 ∨ 255 < g then (3, c + 1) else wrongL ks (d + 1) (c + 1)
def wrongL : List WT → Nat → Nat → Int × Nat
  | [], _, c => (0, c)
  | t :: ts, d, c => if (wrongW t d c).1 = 0 then wrongL ts d (wrongW t d c).2 else wrongW t d c
end
mutual
/-- numbers of 64 bits, texts and lists that can be -/
def fitW : WT → Prop
  | .mk _ n t ks => -9223372036854775808 ≤ n ∧ n ≤ 9223372036854775807 ∧ t.size ≤ 9223372036854775807 ∧ ks.length ≤ 9223372036854775807 ∧ fitL ks
def fitL : List WT → Prop
  | [] => True
  | t :: ts => fitW t ∧ fitL ts
end
mutual
theorem wrongW_ok : ∀ (T : WT) (d c : Nat), fitW T → (wrongW T d c).1 = 0 → okW T d ∧ (wrongW T d c).2 = c + cnt T ∧ c + cnt T ≤ 5000
  | .mk g n t ks, d, c, hf, h => by
    rw [fitW] at hf
    rw [wrongW] at h ⊢
    split at h
    · cases h
    · rename_i h1
      rw [if_neg h1]
      split at h
      · cases h
      · rename_i h2
        rw [if_neg h2]
        obtain ⟨a, b, e⟩ := wrongL_ok ks (d + 1) (c + 1) hf.2.2.2.2 (by omega) h
        rw [okW, cnt]
        exact ⟨⟨by omega, by omega, by omega, hf.1, hf.2.1, by omega, by omega, a⟩, by omega, by omega⟩
theorem wrongL_ok : ∀ (ks : List WT) (d c : Nat), fitL ks → c ≤ 5000 → (wrongL ks d c).1 = 0 → okL ks d ∧ (wrongL ks d c).2 = c + cntL ks ∧ c + cntL ks ≤ 5000
  | [], d, c, hf, hc, h => by
    rw [wrongL, okL, cntL]
    exact ⟨trivial, rfl, hc⟩
  | t :: ts, d, c, hf, hc, h => by
    rw [fitL] at hf
    rw [wrongL] at h ⊢
    split at h
    · rename_i h1
      rw [if_pos h1]
      obtain ⟨a, b, e⟩ := wrongW_ok t d c hf.1 h1
      obtain ⟨a', b', e'⟩ := wrongL_ok ts d _ hf.2 (by omega) h
      rw [okL, cntL]
      exact ⟨⟨a, a'⟩, by omega, by omega⟩
    · rename_i h1
      exact absurd h h1
end
mutual
theorem wrongW_of : ∀ (T : WT) (d c : Nat), okW T d → c + cnt T ≤ 5000 → wrongW T d c = (0, c + cnt T)
  | .mk g n t ks, d, c, hk, h => by
    rw [okW] at hk
    rw [cnt] at h ⊢
    rw [wrongW, if_neg (by omega), if_neg (by omega), wrongL_of ks (d + 1) (c + 1) hk.2.2.2.2.2.2.2 (by omega)]
    congr 1
    omega
theorem wrongL_of : ∀ (ks : List WT) (d c : Nat), okL ks d → c + cntL ks ≤ 5000 → wrongL ks d c = (0, c + cntL ks)
  | [], d, c, hk, h => by rw [wrongL, cntL]; rfl
  | t :: ts, d, c, hk, h => by
    rw [okL] at hk
    rw [cntL] at h ⊢
    have e := wrongW_of t d c hk.1 (by omega)
    rw [wrongL, e, if_pos rfl, wrongL_of ts d _ hk.2 (by simp only; omega)]
    congr 1
    simp only
    omega
end
mutual
theorem wrongW_bd : ∀ (T : WT) (d c : Nat), c ≤ 5000 → (wrongW T d c).2 ≤ 5001 ∧ ((wrongW T d c).1 = 0 → (wrongW T d c).2 ≤ 5000)
  | .mk g n t ks, d, c, h => by
    rw [wrongW]
    split
    · exact ⟨by simp only; omega, fun e => by cases e⟩
    split
    · exact ⟨by simp only; omega, fun e => by cases e⟩
    · exact wrongL_bd ks _ _ (by omega)
theorem wrongL_bd : ∀ (ks : List WT) (d c : Nat), c ≤ 5000 → (wrongL ks d c).2 ≤ 5001 ∧ ((wrongL ks d c).1 = 0 → (wrongL ks d c).2 ≤ 5000)
  | [], d, c, h => by rw [wrongL]; exact ⟨by simp only; omega, fun _ => by simp only; omega⟩
  | t :: ts, d, c, h => by
    rw [wrongL]
    have q := wrongW_bd t d c h
    split
    · rename_i h1
      exact wrongL_bd ts d _ (q.2 h1)
    · exact q
end

/-- what is left to read, how many trees so far, whether something was bad -/
structure RS where
  l : List UInt8
  k : Nat
  bad : Bool
def RS.no (s : RS) : RS := { s with bad := true }
def nextF (s : RS) : Nat × RS := match s.l with
  | [] => (0, s.no)
  | b :: l => (b.toNat, { s with l := l })
def numL : Nat → Nat → Nat → RS → Nat × RS
  | 0, _, _, s => (0, s)
  | f + 1, i, n, s =>
    if (i = 9 ∧ 1 < (nextF s).1) ∨ (0 < i ∧ (nextF s).1 = 0) then (0, (nextF s).2.no)
    else if (nextF s).1 < 128 then (n + (nextF s).1 * 128 ^ i, (nextF s).2) else numL f (i + 1) (n + ((nextF s).1 - 128) * 128 ^ i) (nextF s).2
def numF (s : RS) : Nat × RS := numL 10 0 0 s
def textF (n : Nat) (s : RS) : List UInt8 × RS := if s.l.length < n then ([], s.no) else (s.l.take n, { s with l := s.l.drop n })
def zagF (n : Nat) : Int := if n % 2 = 1 then -((n / 2 : Nat) : Int) - 1 else ((n / 2 : Nat) : Int)
def kidsF (f : RS → WT × RS) : Nat → RS → List WT × RS
  | 0, s => ([], s)
  | c + 1, s => if s.bad = true then ([], s) else ((f s).1 :: (kidsF f c (f s).2).1, (kidsF f c (f s).2).2)
def zeroT : WT := .mk 0 0 ⟨#[]⟩ []
def RS.one (s : RS) : RS := { s with k := s.k + 1 }
/-- a number's, a text's and a list's part of a tree -/
def headF (s : RS) : (Nat × Nat × List UInt8 × Nat) × RS :=
  ((((nextF s).1), (numF (nextF s).2).1, (textF (numF (numF (nextF s).2).2).1 (numF (numF (nextF s).2).2).2).1, (numF (textF (numF (numF (nextF s).2).2).1 (numF (numF (nextF s).2).2).2).2).1),
    (numF (textF (numF (numF (nextF s).2).2).1 (numF (numF (nextF s).2).2).2).2).2)
def treeF : Nat → RS → WT × RS
  | 0, s => (zeroT, s.one.no)
  | d + 1, s => if 5000 < s.k + 1 then (zeroT, s.one.no) else
    (.mk ((headF s.one).1.1 : Int) (zagF (headF s.one).1.2.1) ⟨(headF s.one).1.2.2.1.toArray⟩ (kidsF (treeF d) (headF s.one).1.2.2.2 (headF s.one).2).1, (kidsF (treeF d) (headF s.one).1.2.2.2 (headF s.one).2).2)

theorem next_cons {b : UInt8} {l : List UInt8} {k : Nat} {bad : Bool} : nextF ⟨b :: l, k, bad⟩ = (b.toNat, ⟨l, k, bad⟩) := rfl
theorem next_nil {k : Nat} {bad : Bool} : nextF ⟨[], k, bad⟩ = (0, ⟨[], k, true⟩) := rfl
/-- what was not bad behind was not ahead, and bytes were taken away -/
theorem next_good {s : RS} (h : (nextF s).2.bad = false) : ∃ b, s.l = b :: (nextF s).2.l ∧ (nextF s).1 = b.toNat ∧ s.bad = false ∧ (nextF s).2.k = s.k := by
  obtain ⟨l, k, bad⟩ := s
  cases l with
  | nil => rw [next_nil] at h; cases h
  | cons b l => exact ⟨b, rfl, rfl, h, rfl⟩
theorem pow128 (i : Nat) : 128 ^ (i + 1) = 128 * 128 ^ i := by rw [Nat.pow_succ, Nat.mul_comm]
theorem num_read : ∀ (f i a n : Nat) (r : List UInt8) (k : Nat) (bad : Bool), f + i = 10 → i ≤ 9 → (0 < i → 0 < n) → n * 128 ^ i < 18446744073709551616 →
    numL f i a ⟨uvarint n ++ r, k, bad⟩ = (a + n * 128 ^ i, ⟨r, k, bad⟩)
  | 0, i, a, n, r, k, bad, hf, hi, h0, hn => by omega
  | f + 1, i, a, n, r, k, bad, hf, hi, h0, hn => by
    by_cases hs : n < 128
    · rw [uvarint_small hs, List.cons_append, List.nil_append, numL, next_cons]
      have e : (n.toUInt8).toNat = n := by simp [Nat.toUInt8]; omega
      rw [e, if_neg, if_pos hs]
      rintro (⟨h9, h1⟩ | ⟨h1, h2⟩)
      · subst h9
        have e9 : (128 : Nat) ^ 9 = 9223372036854775808 := by decide
        rw [e9] at hn
        omega
      · have := h0 h1
        simp only at h2
        omega
    · rw [uvarint_big (by omega), List.cons_append, numL, next_cons]
      have e : ((n % 128 + 128).toUInt8).toNat = n % 128 + 128 := by simp [Nat.toUInt8]; omega
      rw [e]
      have h9 : i ≤ 8 := by
        rcases Nat.lt_or_ge i 9 with q | q
        · omega
        · have : i = 9 := by omega
          subst this
          have e9 : (128 : Nat) ^ 9 = 9223372036854775808 := by decide
          rw [e9] at hn
          omega
      have hd : n / 128 * 128 ^ (i + 1) + n % 128 * 128 ^ i = n * 128 ^ i := by
        rw [pow128, ← Nat.mul_assoc, ← Nat.add_mul]
        congr 1
        omega
      rw [if_neg (by simp only; omega), if_neg (by simp only; omega), num_read f (i + 1) _ (n / 128) r k bad (by omega) (by omega) (fun _ => by omega) (by omega)]
      congr 1
      simp only [Nat.add_sub_cancel]
      omega
theorem arith1 (a n c p : Nat) : a + c * p + n * (128 * p) = a + (n * 128 + c) * p := by
  rw [Nat.add_mul, Nat.mul_assoc]
  omega
theorem arith2 {p M n : Nat} (hd : p ∣ M) (h : n * p < M) : (n + 1) * p ≤ M := by
  obtain ⟨q, rfl⟩ := hd
  rw [Nat.mul_comm n] at h
  rw [Nat.mul_comm (n + 1)]
  exact Nat.mul_le_mul_left _ (Nat.lt_of_mul_lt_mul_left h)
theorem arith3 {n c : Nat} (h : n * 128 ^ (8 + 1) < 18446744073709551616) (hc : c < 128) : (n * 128 + c) * 128 ^ 8 < 18446744073709551616 := by
  have e9 : (128 : Nat) ^ (8 + 1) = 9223372036854775808 := by decide
  have e8 : (128 : Nat) ^ 8 = 72057594037927936 := by decide
  rw [e9] at h
  rw [e8]
  have hn : n ≤ 1 := by omega
  have h2 : n * 128 + c ≤ 255 := by omega
  exact Nat.lt_of_le_of_lt (Nat.mul_le_mul_right _ h2) (by decide)
theorem num_good : ∀ (f i a m : Nat) (s s' : RS), f + i = 10 → i ≤ 9 → numL f i a s = (m, s') → s'.bad = false →
    ∃ n, m = a + n * 128 ^ i ∧ s.l = uvarint n ++ s'.l ∧ (0 < i → 0 < n) ∧ n * 128 ^ i < 18446744073709551616 ∧ s'.k = s.k ∧ s.bad = false
  | 0, i, a, m, s, s', hf, hi, h, hb => by omega
  | f + 1, i, a, m, s, s', hf, hi, h, hb => by
    rw [numL] at h
    split at h
    · cases h; cases hb
    · rename_i h1
      split at h
      · rename_i h2
        obtain ⟨rfl, rfl⟩ := Prod.mk.inj h
        obtain ⟨b, hl, hbb, hbad, hk⟩ := next_good hb
        rw [hbb] at h1 h2 ⊢
        refine ⟨b.toNat, rfl, ?_, fun h0 => ?_, ?_, hk, hbad⟩
        · rw [uvarint_small h2, hl]
          simp [Nat.toUInt8]
        · omega
        · rcases Nat.lt_or_ge i 9 with q | q
          · have := Nat.pow_le_pow_right (n := 128) (by decide) (show i ≤ 8 by omega)
            have e8 : (128 : Nat) ^ 8 = 72057594037927936 := by decide
            have := Nat.mul_le_mul (Nat.le_of_lt h2) this
            rw [e8] at this
            omega
          · have h9 : i = 9 := by omega
            subst h9
            have e9 : (128 : Nat) ^ 9 = 9223372036854775808 := by decide
            rw [e9]
            omega
      · rename_i h2
        have hi8 : i ≤ 8 := by
          rcases Nat.lt_or_ge i 9 with q | q
          · omega
          · exfalso; omega
        obtain ⟨n, hm, hl, h0, hn, hk, hbad⟩ := num_good f (i + 1) _ m _ s' (by omega) (by omega) h hb
        obtain ⟨b, hl2, hbb, hbad2, hk2⟩ := next_good hbad
        rw [hbb] at h1 h2 hm
        have hlt := b.toNat_lt
        have hp := h0 (by omega)
        refine ⟨n * 128 + (b.toNat - 128), ?_, ?_, fun _ => by omega, ?_, hk.trans hk2, hbad2⟩
        · rw [hm, pow128]
          exact arith1 _ _ _ _
        · have e1 : (n * 128 + (b.toNat - 128)) % 128 + 128 = b.toNat := by omega
          have e2 : (n * 128 + (b.toNat - 128)) / 128 = n := by omega
          rw [hl2, hl, uvarint_big (x := n * 128 + (b.toNat - 128)) (by omega), List.cons_append, e1, e2]
          simp [Nat.toUInt8]
        · clear hm hl hl2 h
          rcases Nat.lt_or_ge i 8 with q | q
          · have q8 : (n + 1) * 128 ^ (i + 1) ≤ 18446744073709551616 := by
              refine arith2 ⟨128 ^ (8 - i) * 2, ?_⟩ hn
              rw [← Nat.mul_assoc, ← Nat.pow_add, show i + 1 + (8 - i) = 9 by omega]
            have : (n * 128 + (b.toNat - 128)) * 128 ^ i < (n + 1) * 128 ^ (i + 1) := by
              rw [pow128, ← Nat.mul_assoc]
              exact Nat.mul_lt_mul_of_pos_right (by omega) (Nat.pow_pos (by decide))
            omega
          · have : i = 8 := by omega
            subst this
            exact arith3 hn (by omega)
theorem numF_read {n : Nat} (h : n < 18446744073709551616) (r : List UInt8) (k : Nat) (bad : Bool) : numF ⟨uvarint n ++ r, k, bad⟩ = (n, ⟨r, k, bad⟩) := by
  unfold numF
  rw [num_read 10 0 0 n r k bad rfl (by decide) (by omega) (by simpa using h)]
  simp
theorem numF_good {s : RS} (h : (numF s).2.bad = false) : s.l = uvarint (numF s).1 ++ (numF s).2.l ∧ (numF s).1 < 18446744073709551616 ∧ (numF s).2.k = s.k ∧ s.bad = false := by
  obtain ⟨n, hm, hl, _, hn, hk, hb⟩ := num_good 10 0 0 (numF s).1 s (numF s).2 rfl (by decide) rfl h
  have e : (numF s).1 = n := by rw [hm]; simp
  rw [e]
  exact ⟨hl, by simpa using hn, hk, hb⟩
theorem textF_read (a r : List UInt8) (k : Nat) (bad : Bool) : textF a.length ⟨a ++ r, k, bad⟩ = (a, ⟨r, k, bad⟩) := by
  unfold textF
  rw [if_neg (by simp)]
  simp
theorem textF_good {n : Nat} {s : RS} (h : (textF n s).2.bad = false) : s.l = (textF n s).1 ++ (textF n s).2.l ∧ (textF n s).1.length = n ∧ (textF n s).2.k = s.k ∧ s.bad = false := by
  unfold textF at h ⊢
  split at h
  · cases h
  · rename_i q
    rw [if_neg q]
    exact ⟨(List.take_append_drop n s.l).symm, by simp; omega, rfl, h⟩
theorem zag_zig {n : Int} : zagF (zigzag n) = n := by
  unfold zagF zigzag
  split <;> split <;> omega
theorem zig_zag (n : Nat) : zigzag (zagF n) = n := by
  unfold zagF zigzag
  split <;> split <;> omega
theorem zag_bd {n : Nat} (h : n < 18446744073709551616) : -9223372036854775808 ≤ zagF n ∧ zagF n ≤ 9223372036854775807 := by
  unfold zagF
  split <;> omega
theorem zig_bd {n : Int} (h0 : -9223372036854775808 ≤ n) (h1 : n ≤ 9223372036854775807) : zigzag n < 18446744073709551616 := by
  unfold zigzag
  split <;> omega
theorem headF_read (g : Nat) (n : Int) (t : List UInt8) (c : Nat) (r : List UInt8) (k : Nat) (bad : Bool) (hg : g ≤ 255) (hn0 : -9223372036854775808 ≤ n) (hn1 : n ≤ 9223372036854775807) (ht : t.length < 18446744073709551616) (hc : c < 18446744073709551616) :
    headF ⟨g.toUInt8 :: (uvarint (zigzag n) ++ (uvarint t.length ++ (t ++ (uvarint c ++ r)))), k, bad⟩ = ((g, zigzag n, t, c), ⟨r, k, bad⟩) := by
  have e : (g.toUInt8).toNat = g := by simp [Nat.toUInt8]; omega
  unfold headF
  simp only [next_cons, e, numF_read (zig_bd hn0 hn1), numF_read ht, numF_read hc, textF_read]
theorem headF_good {s : RS} (h : (headF s).2.bad = false) : ∃ g : UInt8, (headF s).1.1 = g.toNat ∧ (headF s).1.2.1 < 18446744073709551616 ∧ (headF s).1.2.2.1.length < 18446744073709551616 ∧ (headF s).1.2.2.2 < 18446744073709551616 ∧
    s.l = g :: (uvarint (headF s).1.2.1 ++ (uvarint (headF s).1.2.2.1.length ++ ((headF s).1.2.2.1 ++ (uvarint (headF s).1.2.2.2 ++ (headF s).2.l)))) ∧ (headF s).2.k = s.k ∧ s.bad = false := by
  unfold headF at h ⊢
  simp only at h ⊢
  obtain ⟨a1, a2, a3, a4⟩ := numF_good h
  obtain ⟨b1, b2, b3, b4⟩ := textF_good a4
  obtain ⟨c1, c2, c3, c4⟩ := numF_good b4
  obtain ⟨d1, d2, d3, d4⟩ := numF_good c4
  obtain ⟨g, e1, e2, e3, e4⟩ := next_good d4
  refine ⟨g, e2, d2, by rw [b2]; exact c2, a2, ?_, by omega, e3⟩
  rw [b2, ← a1, ← b1, ← c1, ← d1]
  exact e1

mutual
theorem tree_read : ∀ (T : WT) (d : Nat) (r : List UInt8) (k : Nat), okW T d → k + cnt T ≤ 5000 → treeF (41 - d) ⟨enc T ++ r, k, false⟩ = (T, ⟨r, k + cnt T, false⟩)
  | .mk g n t ks, d, r, k, hk, hc => by
    rw [okW] at hk
    rw [cnt] at hc ⊢
    obtain ⟨D, hD⟩ : ∃ D, 41 - d = D + 1 := ⟨40 - d, by omega⟩
    rw [hD, treeF]
    have e : (g.toNat : Int) = g := by omega
    have hh := headF_read g.toNat n t.data.toList ks.length (encL ks ++ r) (k + 1) false (by omega) hk.2.2.2.1 hk.2.2.2.2.1 hk.2.2.2.2.2.1 hk.2.2.2.2.2.2.1
    have hs : (RS.one ⟨enc (.mk g n t ks) ++ r, k, false⟩) = ⟨g.toNat.toUInt8 :: (uvarint (zigzag n) ++ (uvarint t.data.toList.length ++ (t.data.toList ++ (uvarint ks.length ++ (encL ks ++ r))))), k + 1, false⟩ := by
      rw [enc]
      unfold RS.one
      simp only [List.cons_append, List.append_assoc]
      rfl
    rw [if_neg (by simp only; omega), hs, hh]
    have q := kids_read ks (d + 1) r (k + 1) hk.2.2.2.2.2.2.2 (by omega)
    rw [show 41 - (d + 1) = D by omega] at q
    simp only
    rw [q]
    simp only [zag_zig, e]
    congr 2
    omega
theorem kids_read : ∀ (ks : List WT) (d : Nat) (r : List UInt8) (k : Nat), okL ks d → k + cntL ks ≤ 5000 → kidsF (treeF (41 - d)) ks.length ⟨encL ks ++ r, k, false⟩ = (ks, ⟨r, k + cntL ks, false⟩)
  | [], d, r, k, hk, hc => by
    rw [encL, cntL]
    rfl
  | t :: ts, d, r, k, hk, hc => by
    rw [okL] at hk
    rw [cntL] at hc ⊢
    rw [List.length_cons, kidsF, encL, if_neg (by simp), List.append_assoc, tree_read t d (encL ts ++ r) k hk.1 (by omega)]
    simp only
    rw [kids_read ts d r (k + cnt t) hk.2 (by omega)]
    simp only [Nat.add_assoc]
end
theorem kids_bad {f : RS → WT × RS} : ∀ (c : Nat) (s : RS), (∀ s, (f s).2.bad = false → s.bad = false) → (kidsF f c s).2.bad = false → s.bad = false
  | 0, s, _, h => h
  | c + 1, s, hf, h => by
    rw [kidsF] at h
    split at h
    · exact h
    · rename_i q
      simpa using q
theorem kids_good {f : RS → WT × RS} {P : WT → Prop} (hf : ∀ s, (f s).2.bad = false → s.l = enc (f s).1 ++ (f s).2.l ∧ P (f s).1 ∧ (f s).2.k = s.k + cnt (f s).1 ∧ (f s).2.k ≤ 5000 ∧ s.bad = false) :
    ∀ (c : Nat) (s : RS), s.k ≤ 5000 → (kidsF f c s).2.bad = false → s.l = encL (kidsF f c s).1 ++ (kidsF f c s).2.l ∧ (∀ t ∈ (kidsF f c s).1, P t) ∧ (kidsF f c s).1.length = c ∧ (kidsF f c s).2.k = s.k + cntL (kidsF f c s).1 ∧ (kidsF f c s).2.k ≤ 5000 ∧ s.bad = false
  | 0, s, hk, h => by
    rw [kidsF] at h ⊢
    simp only [encL, cntL]
    exact ⟨rfl, (fun t ht => nomatch ht), rfl, rfl, hk, h⟩
  | c + 1, s, hk, h => by
    rw [kidsF] at h ⊢
    split at h
    · rename_i q
      rw [q] at h; cases h
    · rename_i q
      rw [if_neg q]
      simp only at h ⊢
      have hb := kids_bad c _ (fun s hs => (hf s hs).2.2.2.2) h
      obtain ⟨a1, a2, a3, a4, a5⟩ := hf s hb
      obtain ⟨b1, b2, b3, b4, b5, b6⟩ := kids_good hf c _ a4 h
      refine ⟨?_, ?_, by simp [b3], ?_, b5, a5⟩
      · rw [encL, List.append_assoc, ← b1]; exact a1
      · intro t ht
        rcases List.mem_cons.1 ht with e | e
        · rw [e]; exact a2
        · exact b2 t e
      · rw [cntL]; omega
theorem okL_of : ∀ (ks : List WT) (d : Nat), (∀ t ∈ ks, okW t d) → okL ks d
  | [], d, h => by rw [okL]; trivial
  | t :: ts, d, h => by rw [okL]; exact ⟨h t (List.mem_cons_self ..), okL_of ts d (fun u hu => h u (List.mem_cons_of_mem _ hu))⟩
theorem cntL_len : ∀ (ks : List WT), ks.length ≤ cntL ks
  | [] => by rw [cntL]; exact Nat.le_refl _
  | t :: ts => by
    have := cntL_len ts
    have h1 : 1 ≤ cnt t := by cases t; rw [cnt]; omega
    rw [cntL, List.length_cons]
    omega
theorem tree_bad : ∀ (d : Nat) (s : RS), (treeF d s).2.bad = false → s.bad = false := by
  intro d
  induction d with
  | zero => intro s hh; rw [treeF] at hh; cases hh
  | succ d ih =>
    intro s hh
    rw [treeF] at hh
    split at hh
    · cases hh
    · obtain ⟨_, _, _, _, _, _, _, e⟩ := headF_good (kids_bad _ _ (fun s hs => ih s hs) hh)
      exact e
/-- what is read is what was written -/
theorem tree_good : ∀ (d : Nat) (s : RS), d ≤ 40 → (treeF d s).2.bad = false → s.l = enc (treeF d s).1 ++ (treeF d s).2.l ∧ okW (treeF d s).1 (41 - d) ∧ (treeF d s).2.k = s.k + cnt (treeF d s).1 ∧ (treeF d s).2.k ≤ 5000 ∧ s.bad = false := by
  intro d
  induction d with
  | zero => intro s _ h; rw [treeF] at h; cases h
  | succ d ih =>
    intro s hd h
    rw [treeF] at h ⊢
    split at h
    · cases h
    · rename_i q
      rw [if_neg q]
      simp only at h ⊢
      obtain ⟨g, g1, g2, g3, g4, g5, g6, g7⟩ := headF_good (kids_bad _ _ (tree_bad d) h)
      obtain ⟨k1, k2, k3, k4, k5, k6⟩ := kids_good (f := treeF d) (P := fun t => okW t (41 - d)) (fun s hs => ih s (by omega) hs) _ _ (by rw [g6]; show s.k + 1 ≤ 5000; omega) h
      have hb := g.toNat_lt
      refine ⟨?_, ?_, ?_, k5, g7⟩
      · rw [enc, zig_zag, g1, k3]
        have e : s.l = s.one.l := rfl
        rw [e, g5]
        simp only [List.cons_append, List.append_assoc]
        rw [← k1]
        congr 1
        simp [Nat.toUInt8]
      · rw [okW, g1]
        have z := zag_bd g2
        refine ⟨by omega, by omega, by omega, z.1, z.2, g3, by rw [k3]; exact g4, ?_⟩
        rw [show 41 - (d + 1) + 1 = 41 - d by omega]
        exact okL_of _ _ k2
      · rw [cnt, k4, g6]
        show s.k + 1 + _ = _
        omega
end Go.Proofs.Ytlienildfnlncaa
