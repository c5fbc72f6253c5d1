/- What is written is read; a check sum guards: in plain words. -/
import Derived.Test.YtlienildfnlncaaKN
namespace Go.Proofs.Ytlienildfnlncaa
open Go.Lib (uvarint zigzag)

theorem sumOf_four {s : Nat} (h : s < 4294967296) : sumOf (four s) = s := by
  unfold sumOf four
  have q : ∀ b : Nat, b < 256 → (b.toUInt8).toNat = b := fun b h => by simp [Nat.toUInt8]; omega
  simp only [List.getD_cons_zero, List.getD_cons_succ]
  rw [q _ (Nat.mod_lt _ (by decide)), q _ (Nat.mod_lt _ (by decide)), q _ (Nat.mod_lt _ (by decide)), q _ (Nat.mod_lt _ (by decide))]
  omega
theorem four_sumOf (a b c d : UInt8) : four (sumOf [a, b, c, d]) = [a, b, c, d] := by
  have ha := a.toNat_lt
  have hb := b.toNat_lt
  have hc := c.toNat_lt
  have hd := d.toNat_lt
  have e : sumOf [a, b, c, d] = a.toNat + b.toNat * 256 + c.toNat * 65536 + d.toNat * 16777216 := rfl
  have q : ∀ x : UInt8, (x.toNat).toUInt8 = x := fun x => by simp [Nat.toUInt8]
  unfold four
  rw [e, show (a.toNat + b.toNat * 256 + c.toNat * 65536 + d.toNat * 16777216) % 256 = a.toNat by omega, show (a.toNat + b.toNat * 256 + c.toNat * 65536 + d.toNat * 16777216) / 256 % 256 = b.toNat by omega,
    show (a.toNat + b.toNat * 256 + c.toNat * 65536 + d.toNat * 16777216) / 65536 % 256 = c.toNat by omega, show (a.toNat + b.toNat * 256 + c.toNat * 65536 + d.toNat * 16777216) / 16777216 % 256 = d.toNat by omega, q, q, q, q]
theorem four_len (s : Nat) : (four s).length = 4 := rfl
/-- a tree comes back from its bytes -/
theorem parse_bytes {T : WT} {x : List UInt8} (hf : fitW T) (h : bytesF T = (0, x)) : parseF x = (0, T) := by
  unfold bytesF at h
  split at h
  · rename_i q
    exact absurd (congrArg Prod.fst h) q
  · rename_i hw
    have hw : wrongF T = 0 := Classical.not_not.1 hw
    split at h
    · cases h
    · rename_i hl
      have hx : enc T ++ four (sumB (enc T)).toNat = x := congrArg Prod.snd h
      subst hx
      obtain ⟨hok, _, hc⟩ := wrongW_ok T 1 0 hf hw
      have hT := tree_read T 1 [] 0 hok hc
      rw [List.append_nil] at hT
      have h1 : (enc T ++ four (sumB (enc T)).toNat).take (enc T).length = enc T := List.take_left
      have h2 : (enc T ++ four (sumB (enc T)).toNat).drop (enc T).length = four (sumB (enc T)).toNat := List.drop_left
      have hlen : (enc T ++ four (sumB (enc T)).toNat).length = (enc T).length + 4 := by rw [List.length_append, four_len]
      have hT' : treeF 40 ⟨(enc T ++ four (sumB (enc T)).toNat).take (enc T).length, 0, false⟩ = (T, ⟨[], 0 + cnt T, false⟩) := by rw [h1]; exact hT
      have := pf_ok (l := enc T ++ four (sumB (enc T)).toNat) (k := (enc T).length) (by omega) hlen (by rw [h1, h2]; exact sumOf_four (sumB (enc T)).isLt) (by rw [hT']; simp)
      rw [this, hT']
/-- bytes that are read are those of their tree -/
theorem bytes_parse {l : List UInt8} {T : WT} (h : parseF l = (0, T)) : bytesF T = (0, l) := by
  unfold parseF at h
  split at h
  · cases h
  · rename_i h1
    split at h
    · cases h
    · rename_i h2
      split at h
      · cases h
      · rename_i h3
        have h3 := Classical.not_not.1 h3
        split at h
        · cases h
        · rename_i h4
          have hT : (treeF 40 ⟨l.take (l.length - 4), 0, false⟩).1 = T := congrArg Prod.snd h
          have hb : (treeF 40 ⟨l.take (l.length - 4), 0, false⟩).2.bad = false := by
            cases q : (treeF 40 ⟨l.take (l.length - 4), 0, false⟩).2.bad with
            | true => exact absurd (.inl q) h4
            | false => rfl
          have hl : (treeF 40 ⟨l.take (l.length - 4), 0, false⟩).2.l = [] := Classical.not_not.1 (fun q => h4 (.inr q))
          obtain ⟨a1, a2, a3, a4, _⟩ := tree_good 40 ⟨l.take (l.length - 4), 0, false⟩ (Nat.le_refl _) hb
          rw [hT] at a1 a2 a3
          rw [hl, List.append_nil] at a1
          have a1 : l.take (l.length - 4) = enc T := a1
          have hw : wrongF T = 0 := by
            have := wrongW_of T 1 0 a2 (by rw [← a3]; exact a4)
            unfold wrongF
            rw [this]
          have hlen : (enc T).length = l.length - 4 := by rw [← a1]; simp
          rw [bf_ok hw (by omega)]
          congr 1
          obtain ⟨a, b, c, d, hD⟩ := four_of (l := l.drop (l.length - 4)) (by simp; omega)
          rw [a1, hD] at h3
          rw [← h3, four_sumOf, ← hD, ← a1]
          exact List.take_append_drop _ _

/-- the registers behind bytes that differ -/
theorem byteR_xor (a b : UInt8) : byteR (a ^^^ b) = byteR a ^^^ byteR b := by
  have e : ∀ u : UInt8, (BitVec.ofNat 32 u.toNat).toNat = u.toNat := fun u => by rw [BitVec.toNat_ofNat, Nat.mod_eq_of_lt (by have := u.toNat_lt; omega)]
  apply BitVec.eq_of_toNat_eq
  unfold byteR
  rw [BitVec.toNat_xor, e, e, e, UInt8.toNat_xor]
theorem xor4 (r d a x : Cr.Reg) : (r ^^^ d) ^^^ (a ^^^ x) = (r ^^^ a) ^^^ (d ^^^ x) := by
  apply BitVec.eq_of_getLsbD_eq
  intro i hi
  simp
  cases r.getLsbD i <;> cases d.getLsbD i <;> cases a.getLsbD i <;> cases x.getLsbD i <;> rfl
theorem fold_xor : ∀ (l δ : List UInt8) (r d : Cr.Reg), l.length = δ.length → (List.zipWith (· ^^^ ·) l δ).foldl sumStep (r ^^^ d) = l.foldl sumStep r ^^^ δ.foldl sumStep d
  | [], [], r, d, _ => rfl
  | a :: l, x :: δ, r, d, h => by
    have e : sumStep (r ^^^ d) (a ^^^ x) = sumStep r a ^^^ sumStep d x := by
      unfold sumStep
      rw [byteR_xor, xor4, Cr.Ln_xor]
    show (List.zipWith (· ^^^ ·) l δ).foldl sumStep (sumStep (r ^^^ d) (a ^^^ x)) = _
    rw [e, fold_xor l δ _ _ (by simpa using h)]
    rfl
  | [], _ :: _, _, _, h => by cases h
  | _ :: _, [], _, _, h => by cases h
theorem Ln_comm (n : Nat) (d : Cr.Reg) : Cr.Ln n (Cr.L d) = Cr.L (Cr.Ln n d) := by
  induction n with
  | zero => rfl
  | succ n ih => rw [Cr.Ln, ih, Cr.Ln]
theorem Ln_add (n m : Nat) (d : Cr.Reg) : Cr.Ln n (Cr.Ln m d) = Cr.Ln (n + m) d := by
  induction n with
  | zero => rw [Nat.zero_add]; rfl
  | succ n ih => rw [Cr.Ln, ih, Nat.succ_add]; rfl
theorem byteR_zero : byteR 0 = 0#32 := by decide
theorem fold_zeros (n : Nat) (d : Cr.Reg) : (List.replicate n (0 : UInt8)).foldl sumStep d = Cr.Ln (8 * n) d := by
  induction n generalizing d with
  | zero => rfl
  | succ n ih =>
    rw [List.replicate_succ, List.foldl_cons, ih]
    unfold sumStep
    rw [byteR_zero, BitVec.xor_zero, Ln_add]
    congr 1
/-- the bytes of a change -/
def xb (x j : Nat) : UInt8 := (x / 256 ^ j % 256).toUInt8
theorem byteR_xb (x j n : Nat) (hn : n = 8 * j) (hj : j ≤ 3) (hx : x < 4294967296) : byteR (xb x j) = (Cr.low (n + 8) (BitVec.ofNat 32 x)) >>> n := by
  apply BitVec.eq_of_toNat_eq
  have e1 : (xb x j).toNat = x / 256 ^ j % 256 := by
    unfold xb
    have : x / 256 ^ j % 256 < 256 := Nat.mod_lt _ (by decide)
    simp [Nat.toUInt8]
  unfold byteR Cr.low
  rw [BitVec.toNat_ushiftRight, Nat.shiftRight_eq_div_pow, BitVec.toNat_ofNat, BitVec.toNat_ofNat, BitVec.toNat_ofNat, e1]
  subst hn
  rcases (by omega : j = 0 ∨ j = 1 ∨ j = 2 ∨ j = 3) with rfl | rfl | rfl | rfl <;> omega
theorem low_low (n m : Nat) (x : Cr.Reg) (h : n ≤ m) : Cr.low n (Cr.low m x) = Cr.low n x := by
  apply BitVec.eq_of_getLsbD_eq
  intro i _
  rw [Cr.low_get, Cr.low_get, Cr.low_get]
  by_cases q : i < n
  · simp [q, show i < m by omega]
  · simp [q]
theorem fold_step (n : Nat) (X : Cr.Reg) (y : UInt8) (hy : byteR y = (Cr.low (n + 8) X) >>> n) : sumStep (Cr.Ln n (Cr.low n X)) y = Cr.Ln (n + 8) (Cr.low (n + 8) X) := by
  unfold sumStep
  rw [hy, ← Cr.Ln_high n (Cr.low (n + 8) X), ← Cr.Ln_xor, ← low_low n (n + 8) X (by omega), Cr.low_high, Ln_add, Nat.add_comm 8 n]
theorem low_zero (x : Cr.Reg) : Cr.low 0 x = 0#32 := by
  apply BitVec.eq_of_getLsbD_eq
  intro i _
  rw [Cr.low_get]
  simp
/-- behind the first bytes of a change -/
def xs (x : Nat) : List UInt8 := [xb x 0, xb x 1, xb x 2, xb x 3]
theorem fold_take (x : Nat) (hx : x < 4294967296) : ∀ j, j ≤ 4 → ((xs x).take j).foldl sumStep 0#32 = Cr.Ln (8 * j) (Cr.low (8 * j) (BitVec.ofNat 32 x))
  | 0, _ => by
    rw [show 8 * 0 = 0 from rfl, low_zero]
    rfl
  | j + 1, h => by
    have hl : j < (xs x).length := by show j < 4; omega
    have e : (xs x)[j] = xb x j := by
      rcases (by omega : j = 0 ∨ j = 1 ∨ j = 2 ∨ j = 3) with rfl | rfl | rfl | rfl <;> rfl
    rw [List.take_succ_eq_append_getElem hl, List.foldl_append, fold_take x hx j (by omega), e]
    show sumStep _ _ = _
    rw [fold_step (8 * j) _ _ (byteR_xb x j (8 * j) rfl (by omega) hx)]
    rfl
/-- four bytes as a register -/
def regOf (l : List UInt8) : Cr.Reg := BitVec.ofNat 32 (sumOf l)
theorem xor_256 {h l h' l' : Nat} (hl : l < 256) (hl' : l' < 256) : (256 * h + l) ^^^ (256 * h' + l') = 256 * (h ^^^ h') + (l ^^^ l') := by
  apply Nat.eq_of_testBit_eq
  intro i
  have e : (256 : Nat) = 2 ^ 8 := rfl
  have hx : l ^^^ l' < 2 ^ 8 := Nat.xor_lt_two_pow hl hl'
  rw [Nat.testBit_xor, e, Nat.testBit_two_pow_mul_add _ hl, Nat.testBit_two_pow_mul_add _ hl', Nat.testBit_two_pow_mul_add _ hx]
  split
  · rw [Nat.testBit_xor]
  · rw [Nat.testBit_xor]
theorem sumOf_nest (a b c d : UInt8) : sumOf [a, b, c, d] = 256 * (256 * (256 * d.toNat + c.toNat) + b.toNat) + a.toNat := by
  show a.toNat + b.toNat * 256 + c.toNat * 65536 + d.toNat * 16777216 = _
  omega
theorem sumOf_xor (a b c d a' b' c' d' : UInt8) : sumOf [a ^^^ a', b ^^^ b', c ^^^ c', d ^^^ d'] = sumOf [a, b, c, d] ^^^ sumOf [a', b', c', d'] := by
  rw [sumOf_nest, sumOf_nest, sumOf_nest, xor_256 a.toNat_lt a'.toNat_lt, xor_256 b.toNat_lt b'.toNat_lt, xor_256 c.toNat_lt c'.toNat_lt, UInt8.toNat_xor, UInt8.toNat_xor, UInt8.toNat_xor, UInt8.toNat_xor]
theorem sumOf_lt (a b c d : UInt8) : sumOf [a, b, c, d] < 4294967296 := by
  have ha := a.toNat_lt
  have hb := b.toNat_lt
  have hc := c.toNat_lt
  have hd := d.toNat_lt
  show a.toNat + b.toNat * 256 + c.toNat * 65536 + d.toNat * 16777216 < _
  omega
theorem regOf_xor (a b c d a' b' c' d' : UInt8) : regOf [a ^^^ a', b ^^^ b', c ^^^ c', d ^^^ d'] = regOf [a, b, c, d] ^^^ regOf [a', b', c', d'] := by
  apply BitVec.eq_of_toNat_eq
  unfold regOf
  rw [BitVec.toNat_xor, BitVec.toNat_ofNat, BitVec.toNat_ofNat, BitVec.toNat_ofNat, Nat.mod_eq_of_lt (sumOf_lt ..), Nat.mod_eq_of_lt (sumOf_lt ..), Nat.mod_eq_of_lt (sumOf_lt ..)]
  exact sumOf_xor ..
theorem xb_num (x j : Nat) : (xb x j).toNat = x / 256 ^ j % 256 := by
  unfold xb
  have : x / 256 ^ j % 256 < 256 := Nat.mod_lt _ (by decide)
  simp [Nat.toUInt8]
theorem shift_num (x n : Nat) (hx : x < 4294967296) : (BitVec.ofNat 32 x : Cr.Reg) >>> n = BitVec.ofNat 32 (x / 2 ^ n) := by
  apply BitVec.eq_of_toNat_eq
  rw [BitVec.toNat_ushiftRight, Nat.shiftRight_eq_div_pow, BitVec.toNat_ofNat, BitVec.toNat_ofNat, Nat.mod_eq_of_lt (by omega), Nat.mod_eq_of_lt]
  exact Nat.lt_of_le_of_lt (Nat.div_le_self _ _) (by omega)
theorem regOf_drop (x : Nat) (hx : x < 4294967296) (j : Nat) (hj : j ≤ 4) : regOf ((xs x).drop j ++ List.replicate j 0) = (BitVec.ofNat 32 x : Cr.Reg) >>> (8 * j) := by
  rw [shift_num _ _ hx]
  unfold regOf
  congr 1
  have z : (0 : UInt8).toNat = 0 := rfl
  rcases (by omega : j = 0 ∨ j = 1 ∨ j = 2 ∨ j = 3 ∨ j = 4) with rfl | rfl | rfl | rfl | rfl
  · show (xb x 0).toNat + (xb x 1).toNat * 256 + (xb x 2).toNat * 65536 + (xb x 3).toNat * 16777216 = _
    simp only [xb_num]
    omega
  · show (xb x 1).toNat + (xb x 2).toNat * 256 + (xb x 3).toNat * 65536 + (0 : UInt8).toNat * 16777216 = _
    simp only [xb_num, z]
    omega
  · show (xb x 2).toNat + (xb x 3).toNat * 256 + (0 : UInt8).toNat * 65536 + (0 : UInt8).toNat * 16777216 = _
    simp only [xb_num, z]
    omega
  · show (xb x 3).toNat + (0 : UInt8).toNat * 256 + (0 : UInt8).toNat * 65536 + (0 : UInt8).toNat * 16777216 = _
    simp only [xb_num, z]
    omega
  · show (0 : UInt8).toNat + (0 : UInt8).toNat * 256 + (0 : UInt8).toNat * 65536 + (0 : UInt8).toNat * 16777216 = _
    simp only [z]
    omega
theorem zero_of_reg {x : Nat} (hx : x < 4294967296) (h : (BitVec.ofNat 32 x : Cr.Reg) = 0#32) : x = 0 := by
  have := congrArg BitVec.toNat h
  rw [BitVec.toNat_ofNat, Nat.mod_eq_of_lt (by omega)] at this
  exact this
/-- the change of bytes from a place on -/
def delta (n a x : Nat) : List UInt8 := List.replicate a 0 ++ xs x ++ List.replicate (n - a) 0
theorem guard_plain {n a x : Nat} (hx : x < 4294967296) (h0 : x ≠ 0) (ha : a ≤ n) : ((delta n a x).take n).foldl sumStep 0#32 ≠ regOf ((delta n a x).drop n) := by
  have hne : (BitVec.ofNat 32 x : Cr.Reg) ≠ 0#32 := fun e => h0 (zero_of_reg hx e)
  have hz : ∀ k, (List.replicate k (0 : UInt8)).foldl sumStep 0#32 = 0#32 := fun k => by rw [fold_zeros, Cr.Ln_zero]
  have hxl : (xs x).length = 4 := rfl
  rcases Nat.lt_or_ge n (a + 4) with q | q
  · obtain ⟨j, rfl⟩ : ∃ j, n = a + j := ⟨n - a, by omega⟩
    have hj : j ≤ 4 := by omega
    have e1 : (delta (a + j) a x).take (a + j) = List.replicate a 0 ++ (xs x).take j := by
      unfold delta
      rw [List.append_assoc, List.take_append, List.length_replicate, List.take_of_length_le (by simp), show a + j - a = j by omega, List.take_append_of_le_length (by rw [hxl]; omega)]
    have e2 : (delta (a + j) a x).drop (a + j) = (xs x).drop j ++ List.replicate j 0 := by
      unfold delta
      rw [List.append_assoc, List.drop_append, List.length_replicate, List.drop_eq_nil_of_le (by simp), show a + j - a = j by omega, List.drop_append_of_le_length (by rw [hxl]; omega)]
      rfl
    rw [e1, e2, List.foldl_append, hz, fold_take x hx j hj, regOf_drop x hx j hj, ← Cr.Ln_high]
    intro h
    have h1 := Cr.Ln_inj _ h
    have h2 := Cr.low_high (8 * j) (BitVec.ofNat 32 x)
    rw [h1, BitVec.xor_self] at h2
    exact hne h2.symm
  · obtain ⟨j, rfl⟩ : ∃ j, n = a + 4 + j := ⟨n - a - 4, by omega⟩
    have e1 : (delta (a + 4 + j) a x).take (a + 4 + j) = List.replicate a 0 ++ xs x ++ List.replicate j 0 := by
      unfold delta
      rw [List.take_append, List.length_append, List.length_replicate, hxl, List.take_of_length_le (by simp [hxl]), show a + 4 + j - (a + 4) = j by omega, List.take_replicate, Nat.min_eq_left (by omega)]
    have e2 : (delta (a + 4 + j) a x).drop (a + 4 + j) = List.replicate 4 0 := by
      unfold delta
      rw [List.drop_append, List.length_append, List.length_replicate, hxl, List.drop_eq_nil_of_le (by simp [hxl]), show a + 4 + j - (a + 4) = j by omega, List.drop_replicate, show a + 4 + j - a - j = 4 by omega]
      rfl
    have e3 := fold_take x hx 4 (Nat.le_refl _)
    rw [List.take_of_length_le (by rw [hxl]; exact Nat.le_refl _), show 8 * 4 = 32 from rfl, Cr.low_all] at e3
    have e4 : regOf (List.replicate 4 0) = 0#32 := rfl
    rw [e1, e2, List.foldl_append, List.foldl_append, hz, e3, fold_zeros, e4]
    intro h
    have h1 := Cr.Ln_inj _ (h.trans (Cr.Ln_zero _).symm)
    exact hne (Cr.Ln_inj _ (h1.trans (Cr.Ln_zero 32).symm))
theorem delta_len {n a x : Nat} (ha : a ≤ n) : (delta n a x).length = n + 4 := by
  unfold delta
  simp [xs]
  omega
theorem not_xor (r d : Cr.Reg) : ~~~ (r ^^^ d) = ~~~ r ^^^ d := by
  apply BitVec.eq_of_getLsbD_eq
  intro i hi
  simp [hi]
/-- A CHECK SUM GUARDS -/
theorem guard_bytes {T : WT} {l : List UInt8} {a x : Nat} (h : bytesF T = (0, l)) (ha : a + 4 ≤ l.length) (hx : x < 4294967296) (h0 : x ≠ 0) : ∃ e, parseF (List.zipWith (· ^^^ ·) l (delta (l.length - 4) a x)) = (e, zeroT) ∧ e ≠ 0 := by
  unfold bytesF at h
  split at h
  · rename_i q
    exact absurd (congrArg Prod.fst h) q
  · split at h
    · cases h
    · rename_i hl
      have hx' : enc T ++ four (sumB (enc T)).toNat = l := congrArg Prod.snd h
      obtain ⟨n, hn⟩ : ∃ n, (enc T).length = n := ⟨_, rfl⟩
      have hlen : l.length = n + 4 := by rw [← hx', List.length_append, four_len, hn]
      have hd := delta_len (n := n) (a := a) (x := x) (by omega)
      rw [show l.length - 4 = n by omega]
      obtain ⟨c, hc⟩ : ∃ c, List.zipWith (· ^^^ ·) l (delta n a x) = c := ⟨_, rfl⟩
      have hcl : c.length = n + 4 := by rw [← hc, List.length_zipWith, hd, hlen]; omega
      have ht : c.take n = List.zipWith (· ^^^ ·) (enc T) ((delta n a x).take n) := by
        rw [← hc, List.take_zipWith, ← hx', ← hn, List.take_left]
      have hdr : c.drop n = List.zipWith (· ^^^ ·) (four (sumB (enc T)).toNat) ((delta n a x).drop n) := by
        rw [← hc, List.drop_zipWith, ← hx', ← hn, List.drop_left]
      obtain ⟨d0, d1, d2, d3, hD⟩ := four_of (l := (delta n a x).drop n) (by simp [hd])
      have hg := guard_plain (n := n) (a := a) hx h0 (by omega)
      rw [hc]
      refine ⟨8, pf_fit (k := n) (by omega) hcl ?_, by decide⟩
      intro he
      apply hg
      have hs : sumReg (c.take n) = sumReg (enc T) ^^^ ((delta n a x).take n).foldl sumStep 0#32 := by
        unfold sumReg
        have := fold_xor (enc T) ((delta n a x).take n) 0xFFFFFFFF#32 0#32 (by rw [hn, List.length_take, hd]; omega)
        rw [BitVec.xor_zero] at this
        rw [ht]
        exact this
      have h1 : sumB (c.take n) = sumB (enc T) ^^^ ((delta n a x).take n).foldl sumStep 0#32 := by
        unfold sumB
        rw [hs, not_xor]
      have h2 : regOf (c.drop n) = sumB (enc T) ^^^ regOf ((delta n a x).drop n) := by
        rw [hdr, hD]
        have e2 : regOf (four (sumB (enc T)).toNat) = sumB (enc T) := by
          unfold regOf
          rw [sumOf_four (sumB (enc T)).isLt]
          simp
        obtain ⟨t0, t1, t2, t3, hF⟩ := four_of (four_len (sumB (enc T)).toNat)
        rw [hF] at e2 ⊢
        rw [← e2]
        exact regOf_xor t0 t1 t2 t3 d0 d1 d2 d3
      have h3 : regOf (c.drop n) = sumB (c.take n) := by
        unfold regOf
        rw [he]
        simp
      rw [h1, h2] at h3
      have h4 := congrArg (fun r => sumB (enc T) ^^^ r) h3
      simp only [← BitVec.xor_assoc, BitVec.xor_self, BitVec.zero_xor] at h4
      exact h4.symm
end Go.Proofs.Ytlienildfnlncaa
