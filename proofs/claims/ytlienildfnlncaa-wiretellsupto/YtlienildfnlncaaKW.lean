/- Walks: the document's Sum: bits turned round. -/
import Derived.Test.YtlienildfnlncaaKV
namespace Go.Proofs.Ytlienildfnlncaa
open Go.RowKit

/-- one register is the other one turned round -/
def Rv (q r : Cr.Reg) : Prop := ∀ i, i < 32 → q.getLsbD i = r.getLsbD (31 - i)
def rpoly : Cr.Reg := 0x04C11DB7#32
def refStep (q : Cr.Reg) (b : Bool) : Cr.Reg := if q.getLsbD 31 = b then q <<< 1 else (q <<< 1) ^^^ rpoly
theorem poly_rev : ∀ i : Fin 32, rpoly.getLsbD i.val = Cr.poly.getLsbD (31 - i.val) := by decide
theorem Rv.step {q r : Cr.Reg} (h : Rv q r) (b : Bool) : Rv (refStep q b) (Cr.stepB r b) := by
  have h31 : q.getLsbD 31 = r.getLsbD 0 := h 31 (by decide)
  have hs : ∀ i, i < 32 → (q <<< 1).getLsbD i = (r >>> 1).getLsbD (31 - i) := by
    intro i hi
    rw [BitVec.getLsbD_shiftLeft, BitVec.getLsbD_ushiftRight]
    by_cases h0 : i = 0
    · subst h0
      simp
    · have e : 1 + (31 - i) = 31 - (i - 1) := by omega
      have := h (i - 1) (by omega)
      rw [e, ← this]
      simp [hi]
      omega
  intro i hi
  unfold refStep Cr.stepB
  rw [h31]
  split
  · exact hs i hi
  · rw [BitVec.getLsbD_xor, BitVec.getLsbD_xor, hs i hi]
    have := poly_rev ⟨i, hi⟩
    simp only at this
    rw [this]
/-- behind the first bits of a byte -/
def rr (r : Cr.Reg) (c : UInt8) : Nat → Cr.Reg
  | 0 => r
  | k + 1 => Cr.stepB (rr r c k) ((byteR c).getLsbD k)
theorem rr_is (r : Cr.Reg) (c : UInt8) : ∀ k, k ≤ 32 → rr r c k = Cr.Ln k r ^^^ Cr.diff 0#32 (Cr.bits (byteR c) 0 k)
  | 0, _ => by
    show r = r ^^^ 0#32
    simp
  | k + 1, h => by
    rw [rr, rr_is r c k (by omega), Cr.step_is]
    have e : Cr.bits (byteR c) 0 (k + 1) = Cr.bits (byteR c) 0 k ++ [(byteR c).getLsbD k] := by
      unfold Cr.bits
      rw [List.range_succ, List.map_append]
      simp
    have e2 : Cr.diff 0#32 (Cr.bits (byteR c) 0 (k + 1)) = Cr.L (Cr.diff 0#32 (Cr.bits (byteR c) 0 k) ^^^ Cr.bitR ((byteR c).getLsbD k)) := by
      unfold Cr.diff
      rw [e, List.foldl_append]
      rfl
    rw [e2, BitVec.xor_assoc, Cr.L_xor]
    rfl
theorem rr_eight (r : Cr.Reg) (c : UInt8) : rr r c 8 = sumStep r c := by
  rw [rr_is r c 8 (by decide), Cr.diff_low _ 8 (by decide), ← Cr.Ln_xor]
  unfold sumStep
  congr 2
  apply BitVec.eq_of_toNat_eq
  unfold Cr.low byteR
  have := c.toNat_lt
  rw [BitVec.toNat_ofNat, BitVec.toNat_ofNat]
  omega

theorem rv_ones : Rv 0xFFFFFFFF#32 0xFFFFFFFF#32 := by
  have h : ∀ i : Fin 32, (0xFFFFFFFF#32 : Cr.Reg).getLsbD i.val = (0xFFFFFFFF#32 : Cr.Reg).getLsbD (31 - i.val) := by decide
  exact fun i hi => h ⟨i, hi⟩
def bitI (b : Bool) : Int := if b = true then 1 else 0
theorem bit_mod (n k : Nat) : ((n / 2 ^ k % 2 : Nat) : Int) = bitI (n.testBit k) := by
  rw [Nat.testBit_eq_decide_div_mod_eq]
  unfold bitI
  rcases Nat.mod_two_eq_zero_or_one (n / 2 ^ k) with h | h <;> rw [h] <;> simp
theorem top_num {q : Cr.Reg} {z : Int} (hz : z = (q.toNat : Int)) : z / 2147483648 = bitI (q.getLsbD 31) := by
  have := q.isLt
  rw [← BitVec.testBit_toNat, ← bit_mod, hz]
  rw [Nat.mod_eq_of_lt (by omega)]
  omega
theorem bit_num {x : UInt8} {y : Int} {k : Nat} (hy : (x.toNat : Int) = y) : bits .and .u64 (IntKind.u64.wrap (y / 2 ^ k)) 1 = bitI ((byteR x).getLsbD k) := by
  have hx := x.toNat_lt
  have e : y / 2 ^ k = ((x.toNat / 2 ^ k : Nat) : Int) := by rw [← hy]; simp
  have hle : x.toNat / 2 ^ k ≤ x.toNat := Nat.div_le_self _ _
  have hb : (byteR x).getLsbD k = x.toNat.testBit k := by
    unfold byteR
    rw [← BitVec.testBit_toNat, BitVec.toNat_ofNat, Nat.mod_eq_of_lt (by omega)]
  rw [e, hb, ← bit_mod]
  generalize x.toNat / 2 ^ k = N at hle
  rw [wraps_u64 _ (by omega) (by omega), Go.Lib.u64_and1 _ (by omega) (by omega)]
  omega
theorem bit2_num {q : Cr.Reg} {z : Int} {k : Nat} (hz : z = (q.toNat : Int)) : bits .and .u64 (z / 2 ^ k) 1 = bitI (q.getLsbD k) := by
  have hq := q.isLt
  have e : z / 2 ^ k = ((q.toNat / 2 ^ k : Nat) : Int) := by rw [hz]; simp
  have hle : q.toNat / 2 ^ k ≤ q.toNat := Nat.div_le_self _ _
  rw [e, ← BitVec.testBit_toNat, ← bit_mod]
  generalize q.toNat / 2 ^ k = N at hle
  rw [Go.Lib.u64_and1 _ (by omega) (by omega)]
  omega
theorem or_num {o : Cr.Reg} {z : Int} {k : Nat} (hk : k < 32) (hz : z = (o.toNat : Int)) : bits .or .u32 z (2 ^ (31 - k) % 4294967296) = ((o ||| (1#32 <<< (31 - k))).toNat : Int) := by
  have ho := o.isLt
  have hp : 2 ^ (31 - k) < 4294967296 := Nat.lt_of_le_of_lt (Nat.pow_le_pow_right (by decide) (show 31 - k ≤ 31 by omega)) (by decide)
  have e : (2 : Int) ^ (31 - k) % 4294967296 = ((2 ^ (31 - k) : Nat) : Int) := by
    have : (2 : Int) ^ (31 - k) = ((2 ^ (31 - k) : Nat) : Int) := by simp
    rw [this]
    generalize 2 ^ (31 - k) = P at hp
    omega
  rw [hz, e, u32_or_nat _ _ (by omega) hp, BitVec.toNat_or, BitVec.toNat_shiftLeft, Nat.shiftLeft_eq]
  congr 2
  rw [show (1#32).toNat = 1 from rfl, Nat.one_mul, Nat.mod_eq_of_lt (by omega)]
theorem or_bit {o : Cr.Reg} {k i : Nat} (hk : k < 32) (hi : i < 32) : (o ||| (1#32 <<< (31 - k))).getLsbD i = (o.getLsbD i || decide (31 - i = k)) := by
  rw [BitVec.getLsbD_or, BitVec.getLsbD_shiftLeft]
  congr 1
  by_cases h : i < 31 - k
  · simp [h]
    omega
  · by_cases h2 : i = 31 - k
    · subst h2
      simp
      omega
    · simp [h, hi]
      have e : ¬ i - (31 - k) = 0 := by omega
      simp [e]
      omega
theorem shl_num {q : Cr.Reg} {z : Int} (hz : z = (q.toNat : Int)) : bits .and .u64 (IntKind.u64.wrap (z * 2)) 4294967295 = ((q <<< 1).toNat : Int) := by
  have hq := q.isLt
  rw [hz, wraps_u64 _ (by omega) (by omega)]
  have h := bits_mask .u64 64 (by decide) wraps_u64 32 (by decide) ((q.toNat : Int) * 2) (by omega) (by omega)
  have e : (2 : Int) ^ 32 - 1 = 4294967295 := by decide
  rw [e] at h
  rw [h, BitVec.toNat_shiftLeft, Nat.shiftLeft_eq]
  omega
theorem xor_rp {s : Cr.Reg} {z : Int} (hz : z = (s.toNat : Int)) : bits .xor .u64 z 79764919 = ((s ^^^ rpoly).toNat : Int) := by
  have hs := s.isLt
  rw [hz]
  have q := u64_xor_nat s.toNat 79764919 (by omega) (by decide)
  refine q.trans ?_
  rw [BitVec.toNat_xor]
  rfl
theorem bitI_ne (a b : Bool) : (bitI a != bitI b) = !(a == b) := by cases a <;> cases b <;> decide

set_option maxHeartbeats 4000000 in
theorem rsum_any (l : List UInt8) (b off cap : Nat) (w : World) (hl : l.length ≤ 9223372036854775807) (hc : BC w b off l) :
    Calls Try.prog 9 #[.slice (some ⟨b, off, none⟩) l.length cap] w fun e w' => e = .returned (.int .u32 ((sumB l).toNat : Int)) ∧ w' = w := by
  have HC := hide hc
  clear hc
  go_enter Try.func9, Try.ntmps9
  go_wp2_with fail
  go_loopw [3, 13] (fun a i wr => ∃ m : Nat, m ≤ l.length ∧ i = .int .i64 (m : Int) ∧ ∃ (q : Cr.Reg) (z : Int), a = .int .u64 z ∧ Hid (z = (q.toNat : Int)) ∧ Hid (Rv q ((l.take m).foldl sumStep 0xFFFFFFFF#32)) ∧ wr = w) (fun _ i _ => l.length - (intOf i).toNat)
  case atStart => exact ⟨0, Nat.zero_le _, rfl, 0xFFFFFFFF#32, _, rfl, hide rfl, hide rv_ones, rfl⟩
  case round =>
    obtain ⟨m, hm, rfl, q, z, rfl, HZ, H, rfl⟩ := hrel
    by_cases hlt : m < l.length
    · have hi1 : (m : Int) < (l.length : Int) := by omega
      obtain ⟨x, hx⟩ : ∃ x, l[m]? = some x := ⟨_, List.getElem?_eq_getElem hlt⟩
      have hcell := unhide HC m x hx
      have HXL := hide hx
      obtain ⟨y, hy⟩ : ∃ y : Int, (x.toNat : Int) = y := ⟨_, rfl⟩
      rw [hy] at hcell
      have HY := hide hy
      obtain ⟨r, hr⟩ : ∃ r, (l.take m).foldl sumStep 0xFFFFFFFF#32 = r := ⟨_, rfl⟩
      rw [hr] at H
      have HR := hide hr
      clear hr hy hx
      go_wp2_with fail
      go_loopw [3, 6] (fun a j wr' => ∃ k : Nat, k ≤ 8 ∧ j = .int .i64 (k : Int) ∧ ∃ (q' : Cr.Reg) (z' : Int), a = .int .u64 z' ∧ Hid (z' = (q'.toNat : Int)) ∧ Hid (Rv q' (rr r x k)) ∧ wr' = wr) (fun _ j _ => 8 - (intOf j).toNat)
      case atStart => exact ⟨0, by omega, rfl, q, z, rfl, HZ, H, rfl⟩
      case round =>
        obtain ⟨k, hk, rfl, q', z', rfl, HZ', H', rfl⟩ := hrel
        by_cases h8 : k < 8
        · have h8' : (k : Int) < 8 := by omega
          have E1 := top_num (unhide HZ')
          have E2 := bit_num (k := k) (unhide HY)
          have E3 := shl_num (unhide HZ')
          obtain ⟨z2, hz2⟩ : ∃ z2 : Int, ((q' <<< 1).toNat : Int) = z2 := ⟨_, rfl⟩
          have E4 := xor_rp hz2.symm
          rw [hz2] at E3
          obtain ⟨z3, hz3⟩ : ∃ z3 : Int, ((q' <<< 1 ^^^ rpoly).toNat : Int) = z3 := ⟨_, rfl⟩
          rw [hz3] at E4
          have HSt := hide ((unhide H').step ((byteR x).getLsbD k))
          obtain ⟨t1, ht1⟩ : ∃ t1, bitI (q'.getLsbD 31) = t1 := ⟨_, rfl⟩
          obtain ⟨t2, ht2⟩ : ∃ t2, bitI ((byteR x).getLsbD k) = t2 := ⟨_, rfl⟩
          have hcmp := bitI_ne (q'.getLsbD 31) ((byteR x).getLsbD k)
          rw [ht1, ht2] at hcmp
          rw [ht1] at E1
          rw [ht2] at E2
          have H2 := hide hz2
          have H3 := hide hz3
          clear hz2 hz3 ht1 ht2
          by_cases hb : q'.getLsbD 31 = (byteR x).getLsbD k
          · rw [hb] at hcmp
            simp only [BEq.rfl, Bool.not_true] at hcmp
            have HN : Hid (Rv (q' <<< 1) (rr r x (k + 1))) := by
              have h := unhide HSt
              unfold refStep at h
              rw [if_pos hb] at h
              exact hide h
            clear HSt hb H'
            go_wp2_with fail
            go_roundw
            case rel => exact ⟨k + 1, by omega, by go_num, q' <<< 1, z2, rfl, hide (unhide H2).symm, HN, trivial⟩
            case measure => simp [intOf]; omega
          · have hcmp' : (t1 != t2) = true := by
              rw [hcmp]
              cases h1 : q'.getLsbD 31 <;> cases h2 : (byteR x).getLsbD k <;> rw [h1, h2] at hb <;> first | rfl | exact absurd rfl hb
            have HN : Hid (Rv (q' <<< 1 ^^^ rpoly) (rr r x (k + 1))) := by
              have h := unhide HSt
              unfold refStep at h
              rw [if_neg hb] at h
              exact hide h
            clear HSt hb H' hcmp
            go_wp2_with fail
            go_roundw
            case rel => exact ⟨k + 1, by omega, by go_num, q' <<< 1 ^^^ rpoly, z3, rfl, hide (unhide H3).symm, HN, trivial⟩
            case measure => simp [intOf]; omega
        · obtain rfl : k = 8 := by omega
          have HN : Hid (Rv q' ((l.take (m + 1)).foldl sumStep 0xFFFFFFFF#32)) := by
            refine hide ?_
            have hx' : l[m] = x := by
              have hx := unhide HXL
              rw [List.getElem?_eq_getElem hlt] at hx
              exact Option.some.inj hx
            rw [List.take_succ_eq_append_getElem hlt, List.foldl_append, unhide HR, hx']
            show Rv q' (sumStep r x)
            rw [← rr_eight]
            exact unhide H'
          go_wp2_with fail
          go_roundw
          case rel => exact ⟨m + 1, by omega, by go_num, q', z', rfl, HZ', HN, trivial⟩
          case measure => simp [intOf]; omega
    · obtain rfl : m = l.length := by omega
      have HF : Hid (Rv q (sumReg l)) := by
        have h := unhide H
        rw [List.take_length] at h
        exact hide h
      clear H
      go_wp2_with fail
      go_loopw [9, 10] (fun a j wr' => ∃ k : Nat, k ≤ 32 ∧ j = .int .i64 (k : Int) ∧ ∃ (o : Cr.Reg) (zo : Int), a = .int .u32 zo ∧ Hid (zo = (o.toNat : Int)) ∧ Hid (∀ i, i < 32 → o.getLsbD i = (decide (31 - i < k) && !q.getLsbD (31 - i))) ∧ wr' = wr) (fun _ j _ => 32 - (intOf j).toNat)
      case atStart => exact ⟨0, by omega, rfl, 0#32, 0, rfl, hide rfl, hide (by intro i hi; simp), rfl⟩
      case round =>
        obtain ⟨k, hk, rfl, o, zo, rfl, HZo, HO, rfl⟩ := hrel
        by_cases h32 : k < 32
        · have h32' : (k : Int) < 32 := by omega
          have E1 := bit2_num (k := k) (unhide HZ)
          cases hb : q.getLsbD k with
          | true =>
            rw [hb] at E1
            have E1' : bits .and .u64 (z / 2 ^ k) 1 = 1 := E1
            have HN : Hid (∀ i, i < 32 → o.getLsbD i = (decide (31 - i < k + 1) && !q.getLsbD (31 - i))) := hide fun i hi => by
              rw [unhide HO i hi]
              by_cases e : 31 - i = k
              · rw [e, hb]
                simp
              · have : (31 - i < k) = (31 - i < k + 1) := by
                  apply propext
                  omega
                simp only [this]
            clear E1 HO hb
            go_wp2_with fail
            go_roundw
            case rel => exact ⟨k + 1, by omega, by go_num, o, zo, rfl, HZo, HN, trivial⟩
            case measure => simp [intOf]; omega
          | false =>
            rw [hb] at E1
            have E1' : bits .and .u64 (z / 2 ^ k) 1 = 0 := E1
            have E2 := or_num h32 (unhide HZo)
            obtain ⟨z2, hz2⟩ : ∃ z2 : Int, ((o ||| (1#32 <<< (31 - k))).toNat : Int) = z2 := ⟨_, rfl⟩
            rw [hz2] at E2
            have H2 := hide hz2
            have HN : Hid (∀ i, i < 32 → (o ||| (1#32 <<< (31 - k))).getLsbD i = (decide (31 - i < k + 1) && !q.getLsbD (31 - i))) := hide fun i hi => by
              rw [or_bit h32 hi, unhide HO i hi]
              by_cases e : 31 - i = k
              · rw [e, hb]
                simp
              · have : (31 - i < k) = (31 - i < k + 1) := by
                  apply propext
                  omega
                simp only [this, decide_eq_false e, Bool.or_false]
            clear E1 HO hb hz2
            go_wp2_with fail
            go_roundw
            case rel => exact ⟨k + 1, by omega, by go_num, o ||| (1#32 <<< (31 - k)), z2, rfl, hide (unhide H2).symm, HN, trivial⟩
            case measure => simp [intOf]; omega
        · obtain rfl : k = 32 := by omega
          have HS : Hid ((sumB l).toNat = o.toNat) := by
            refine hide ?_
            congr 1
            unfold sumB
            apply BitVec.eq_of_getLsbD_eq
            intro i hi
            have h1 := unhide HO i hi
            have h2 := unhide HF (31 - i) (by omega)
            rw [h1, h2, show 31 - (31 - i) = i by omega, decide_eq_true (by omega), BitVec.getLsbD_not]
            simp [hi]
          have HZ2 : Hid (zo = ((sumB l).toNat : Int)) := hide (by rw [unhide HZo, unhide HS])
          clear HZo HO HS HF
          go_wp2
          go_ret
          rw [← unhide HZ2]
          exact ⟨rfl, rfl⟩
end Go.Proofs.Ytlienildfnlncaa
