/- A check sum of thirty-two bits in plain words: of which up to four bytes that stand together are changed, it tells. -/
namespace Go.Proofs.Ytlienildfnlncaa.Cr

abbrev Reg := BitVec 32
def poly : Reg := 0xEDB88320#32
/-- the register moved down by one -/
def L (r : Reg) : Reg := if r.getLsbD 0 = true then (r >>> 1) ^^^ poly else r >>> 1
def bitR (b : Bool) : Reg := if b = true then 1#32 else 0#32
/-- the register behind one bit more -/
def stepB (r : Reg) (b : Bool) : Reg := if r.getLsbD 0 = b then r >>> 1 else (r >>> 1) ^^^ poly

theorem poly_top : poly.getLsbD 31 = true := by decide
theorem shift_top (r : Reg) : (r >>> 1).getLsbD 31 = false := by simp
theorem L_top (r : Reg) : (L r).getLsbD 31 = r.getLsbD 0 := by
  unfold L
  split
  · rename_i h
    rw [BitVec.getLsbD_xor, shift_top, poly_top, h]
    rfl
  · rename_i h
    rw [shift_top]
    simpa using h
theorem shift_inj {r s : Reg} (h0 : r.getLsbD 0 = s.getLsbD 0) (h : r >>> 1 = s >>> 1) : r = s := by
  apply BitVec.eq_of_getLsbD_eq
  intro i hi
  cases i with
  | zero => exact h0
  | succ i =>
    have := congrArg (fun x : Reg => x.getLsbD i) h
    simpa [Nat.add_comm] using this
theorem L_inj {r s : Reg} (h : L r = L s) : r = s := by
  have h0 : r.getLsbD 0 = s.getLsbD 0 := by rw [← L_top, ← L_top, h]
  refine shift_inj h0 ?_
  unfold L at h
  rw [← h0] at h
  split at h
  · have := congrArg (fun x : Reg => x ^^^ poly) h
    simpa [BitVec.xor_assoc] using this
  · exact h
theorem shift_xor (r s : Reg) : (r ^^^ s) >>> 1 = (r >>> 1) ^^^ (s >>> 1) := by
  apply BitVec.eq_of_getLsbD_eq
  intro i hi
  simp
theorem L_xor (r s : Reg) : L (r ^^^ s) = L r ^^^ L s := by
  unfold L
  rw [BitVec.getLsbD_xor, shift_xor]
  cases hr : r.getLsbD 0 <;> cases hs : s.getLsbD 0 <;> simp
  · rw [BitVec.xor_assoc]
  · rw [BitVec.xor_assoc, BitVec.xor_assoc, BitVec.xor_comm poly]
  · apply BitVec.eq_of_getLsbD_eq
    intro i hi
    simp
    cases r.getLsbD (1 + i) <;> cases s.getLsbD (1 + i) <;> cases poly.getLsbD i <;> rfl
theorem L_zero : L 0#32 = 0#32 := by decide
theorem step_is (r : Reg) (b : Bool) : stepB r b = L (r ^^^ bitR b) := by
  rw [L_xor]
  unfold stepB L bitR
  cases b
  · cases h : r.getLsbD 0 <;> simp
  · have e : (1#32).getLsbD 0 = true := by decide
    have e1 : (1#32 : Reg) >>> 1 = 0#32 := by decide
    cases h : r.getLsbD 0 <;> simp [e1] <;> rw [BitVec.xor_assoc, BitVec.xor_self] <;> simp

def runB (r : Reg) (l : List Bool) : Reg := l.foldl stepB r
/-- how two differ, whose bits differ so -/
def diff (d : Reg) (l : List Bool) : Reg := l.foldl (fun d b => L (d ^^^ bitR b)) d
theorem bitR_xor (a b : Bool) : bitR a ^^^ bitR b = bitR (a ^^ b) := by cases a <;> cases b <;> decide
theorem run_diff : ∀ (l k : List Bool) (r s : Reg), l.length = k.length → runB r l ^^^ runB s k = diff (r ^^^ s) (List.zipWith (fun a b => a ^^ b) l k)
  | [], [], r, s, _ => rfl
  | a :: l, b :: k, r, s, h => by
    have ih := run_diff l k (stepB r a) (stepB s b) (by simpa using h)
    show runB (stepB r a) l ^^^ runB (stepB s b) k = _
    rw [ih]
    show diff _ _ = diff (L ((r ^^^ s) ^^^ bitR (a ^^ b))) _
    rw [step_is, step_is, ← L_xor]
    congr 2
    rw [← bitR_xor]
    apply BitVec.eq_of_getLsbD_eq
    intro i hi
    simp
    cases r.getLsbD i <;> cases s.getLsbD i <;> cases (bitR a).getLsbD i <;> cases (bitR b).getLsbD i <;> rfl
  | [], _ :: _, _, _, h => by cases h
  | _ :: _, [], _, _, h => by cases h
def Ln : Nat → Reg → Reg
  | 0, r => r
  | n + 1, r => L (Ln n r)
theorem Ln_inj : ∀ (n : Nat) {r s : Reg}, Ln n r = Ln n s → r = s
  | 0, _, _, h => h
  | n + 1, _, _, h => Ln_inj n (L_inj h)
theorem Ln_xor : ∀ (n : Nat) (r s : Reg), Ln n (r ^^^ s) = Ln n r ^^^ Ln n s
  | 0, _, _ => rfl
  | n + 1, r, s => by rw [Ln, Ln_xor n, L_xor]; rfl
theorem Ln_zero : ∀ n : Nat, Ln n 0#32 = 0#32
  | 0 => rfl
  | n + 1 => by rw [Ln, Ln_zero n, L_zero]
theorem diff_zeros : ∀ (n : Nat) (d : Reg), diff d (List.replicate n false) = Ln n d
  | 0, d => rfl
  | n + 1, d => by
    show diff (L (d ^^^ bitR false)) (List.replicate n false) = L (Ln n d)
    rw [diff_zeros n]
    have e : d ^^^ bitR false = d := by unfold bitR; simp
    rw [e]
    have comm : ∀ (n : Nat) (d : Reg), Ln n (L d) = L (Ln n d) := fun n => by
      induction n with
      | zero => intro d; rfl
      | succ n ih => intro d; rw [Ln, ih, Ln]
    exact comm n d
/-- the lowest so many bits, and the others -/
def low (n : Nat) (x : Reg) : Reg := BitVec.ofNat 32 (x.toNat % 2 ^ n)
def high (n : Nat) (x : Reg) : Reg := x >>> n <<< n
def bits (x : Reg) (o n : Nat) : List Bool := (List.range n).map (fun i => x.getLsbD (o + i))
theorem low_get (n : Nat) (x : Reg) (i : Nat) : (low n x).getLsbD i = (decide (i < n) && x.getLsbD i) := by
  unfold low
  by_cases hi : i < 32
  · rw [BitVec.getLsbD_ofNat, Nat.testBit_mod_two_pow, BitVec.testBit_toNat]
    simp [hi]
  · simp [BitVec.getLsbD_of_ge x i (by omega), BitVec.getLsbD_of_ge _ i (Nat.le_of_not_lt hi)]
theorem high_get (n : Nat) (x : Reg) (i : Nat) : (high n x).getLsbD i = (decide (n ≤ i) && x.getLsbD i) := by
  unfold high
  by_cases hi : i < 32
  · by_cases h : n ≤ i
    · simp [hi, h, Nat.not_lt.2 h, show n + (i - n) = i by omega]
    · simp [h, Nat.lt_of_not_le h]
  · simp [BitVec.getLsbD_of_ge x i (by omega), BitVec.getLsbD_of_ge _ i (Nat.le_of_not_lt hi)]
theorem low_high (n : Nat) (x : Reg) : low n x ^^^ high n x = x := by
  apply BitVec.eq_of_getLsbD_eq
  intro i _
  rw [BitVec.getLsbD_xor, low_get, high_get]
  by_cases h : i < n
  · simp [h, Nat.not_le.2 h]
  · simp [h, Nat.le_of_not_lt h]
/-- a bit above falls -/
theorem L_shl (y : Reg) (n : Nat) : L (y >>> (n + 1) <<< (n + 1)) = y >>> (n + 1) <<< n := by
  unfold L
  rw [if_neg (by simp)]
  apply BitVec.eq_of_getLsbD_eq
  intro i hi
  by_cases h : 1 + i < 32
  · by_cases h2 : n ≤ i
    · simp [h, hi, show ¬ (1 + i < n + 1) by omega, Nat.not_lt.2 h2, show n + 1 + (1 + i - (n + 1)) = n + 1 + (i - n) by omega]
    · simp [h, Nat.lt_of_not_le h2, show 1 + i < n + 1 by omega]
  · have : i = 31 := by omega
    subst this
    by_cases h2 : n ≤ 31
    · simp [Nat.not_lt.2 h2]
      exact BitVec.getLsbD_of_ge y _ (by omega)
    · simp [Nat.lt_of_not_le h2]
theorem Ln_high : ∀ (n : Nat) (x : Reg), Ln n (high n x) = x >>> n := by
  have gen : ∀ (n m : Nat) (x : Reg), Ln n (x >>> (n + m) <<< (n + m)) = x >>> (n + m) <<< m := by
    intro n
    induction n with
    | zero => intro m x; simp [Ln]
    | succ n ih =>
      intro m x
      rw [Ln]
      have := ih (m + 1) x
      rw [show n + 1 + m = n + (m + 1) by omega, this]
      have e : x >>> (n + (m + 1)) = (x >>> n) >>> (m + 1) := by rw [BitVec.shiftRight_add]
      rw [e]
      exact L_shl _ _
  intro n x
  have := gen n 0 x
  simpa [high] using this
/-- behind the first so many bits of a change -/
theorem diff_low (x : Reg) : ∀ n : Nat, n ≤ 32 → diff 0#32 (bits x 0 n) = Ln n (low n x)
  | 0, _ => by
    have : low 0 x = 0#32 := by apply BitVec.eq_of_getLsbD_eq; intro i _; rw [low_get]; simp
    rw [this]
    rfl
  | n + 1, h => by
    have ih := diff_low x n (by omega)
    have e : bits x 0 (n + 1) = bits x 0 n ++ [x.getLsbD n] := by
      unfold bits
      rw [List.range_succ, List.map_append]
      simp
    unfold diff at *
    rw [e, List.foldl_append, ih]
    show L (Ln n (low n x) ^^^ bitR (x.getLsbD n)) = L (Ln n (low (n + 1) x))
    congr 1
    have hb : bitR (x.getLsbD n) = Ln n (high n (low (n + 1) x)) := by
      rw [Ln_high]
      apply BitVec.eq_of_getLsbD_eq
      intro i hi
      rw [BitVec.getLsbD_ushiftRight, low_get]
      unfold bitR
      cases i with
      | zero =>
        simp
        cases x.getLsbD n <;> simp
      | succ i =>
        have : ¬ (n + (i + 1) < n + 1) := by omega
        simp [this]
        cases x.getLsbD n <;> simp
    have hl : low n (low (n + 1) x) = low n x := by
      apply BitVec.eq_of_getLsbD_eq
      intro i _
      rw [low_get, low_get, low_get]
      by_cases q : i < n
      · simp [q, show i < n + 1 by omega]
      · simp [q]
    rw [hb, ← hl, ← Ln_xor, low_high]
theorem low_all (x : Reg) : low 32 x = x := by
  apply BitVec.eq_of_getLsbD_eq
  intro i hi
  rw [low_get]
  simp [hi]
/-- a change that lies within: the registers differ -/
theorem guard_in {x : Reg} (hx : x ≠ 0#32) (a b : Nat) : diff 0#32 (List.replicate a false ++ bits x 0 32 ++ List.replicate b false) ≠ 0#32 := by
  have e : diff 0#32 (List.replicate a false ++ bits x 0 32 ++ List.replicate b false) = Ln b (Ln 32 x) := by
    unfold diff
    rw [List.foldl_append, List.foldl_append]
    have h1 := diff_zeros a 0#32
    have h2 := diff_low x 32 (Nat.le_refl _)
    unfold diff at h1 h2
    rw [h1, Ln_zero, h2, low_all]
    exact diff_zeros b _
  rw [e]
  intro h
  have h1 := Ln_inj b (h.trans (Ln_zero b).symm)
  exact hx (Ln_inj 32 (h1.trans (Ln_zero 32).symm))
/-- a change that reaches into the sum itself: it does not fit -/
theorem guard_end {x : Reg} (hx : x ≠ 0#32) (a n : Nat) (hn : n ≤ 32) : diff 0#32 (List.replicate a false ++ bits x 0 n) ≠ x >>> n := by
  have e : diff 0#32 (List.replicate a false ++ bits x 0 n) = Ln n (low n x) := by
    unfold diff
    rw [List.foldl_append]
    have h1 := diff_zeros a 0#32
    have h2 := diff_low x n hn
    unfold diff at h1 h2
    rw [h1, Ln_zero, h2]
  rw [e, ← Ln_high n x]
  intro h
  have h1 := Ln_inj n h
  have : x = 0#32 := by
    have h2 := low_high n x
    rw [h1, BitVec.xor_self] at h2
    exact h2.symm
  exact hx this
end Go.Proofs.Ytlienildfnlncaa.Cr
