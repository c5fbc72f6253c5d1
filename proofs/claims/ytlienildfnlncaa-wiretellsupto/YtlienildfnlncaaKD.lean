/- Walks: Sum. -/
import Derived.Test.YtlienildfnlncaaKC
import Derived.Test.YtlienildfnlncaaCrA
import Derived.Laws.BitsAllLaws
namespace Go.Proofs.Ytlienildfnlncaa
open Go.RowKit

/-- these bytes lie there -/
def BC (w : World) (b off : Nat) (l : List UInt8) : Prop := ∀ i x, l[i]? = some x → w.cell? ⟨b, off + i, none⟩ = some (.int .u8 (x.toNat : Int))
theorem BC.keep {w w' : World} {b off : Nat} {l : List UInt8} (h : BC w b off l) (c : ∀ o, w'.cell? ⟨b, o, none⟩ = w.cell? ⟨b, o, none⟩) : BC w' b off l := fun i x hx => (c _).trans (h i x hx)
def byteR (x : UInt8) : Cr.Reg := BitVec.ofNat 32 x.toNat
def sumStep (r : Cr.Reg) (x : UInt8) : Cr.Reg := Cr.Ln 8 (r ^^^ byteR x)
def sumReg (l : List UInt8) : Cr.Reg := l.foldl sumStep 0xFFFFFFFF#32
def sumB (l : List UInt8) : Cr.Reg := ~~~ (sumReg l)
theorem and1_num (n : Nat) (h : n < 4294967296) : bits .and .u32 (n : Int) 1 = ((n % 2 : Nat) : Int) := by
  have e := u32_and_nat n 1 h (by decide)
  rw [show ((1 : Nat) : Int) = 1 from rfl] at e
  rw [e, Nat.and_one_is_mod]
theorem L_num (r : Cr.Reg) : bits .xor .u32 ((r.toNat : Int) / 2) (3988292384 * bits .and .u32 (r.toNat : Int) 1 % 4294967296) = ((Cr.L r).toNat : Int) := by
  have hr := r.isLt
  have e1 : ((r.toNat : Int) / 2) = ((r.toNat / 2 : Nat) : Int) := by omega
  have e2 : (r >>> 1).toNat = r.toNat / 2 := by rw [BitVec.toNat_ushiftRight, Nat.shiftRight_eq_div_pow]
  rw [and1_num _ (by omega), e1]
  unfold Cr.L
  rcases Nat.mod_two_eq_zero_or_one r.toNat with h | h
  · have hb : ¬ r.getLsbD 0 = true := by
      rw [← BitVec.testBit_toNat, Nat.testBit_zero, h]
      simp
    rw [if_neg hb, h, e2]
    have q := u32_xor_nat (r.toNat / 2) 0 (by omega) (by decide)
    rw [Nat.xor_zero] at q
    exact q
  · have hb : r.getLsbD 0 = true := by
      rw [← BitVec.testBit_toNat, Nat.testBit_zero, h]
      simp
    rw [if_pos hb, h, BitVec.toNat_xor, e2]
    exact u32_xor_nat (r.toNat / 2) 3988292384 (by omega) (by decide)
theorem not_num (r : Cr.Reg) : bits .xor .u32 IntKind.u32.max (r.toNat : Int) = ((~~~ r).toNat : Int) := by
  have hr := r.isLt
  have q := u32_xor_nat 4294967295 r.toNat (by decide) (by omega)
  refine q.trans ?_
  have e : (BitVec.allOnes 32 ^^^ r) = ~~~ r := by rw [BitVec.xor_comm, BitVec.xor_allOnes]
  rw [← e, BitVec.toNat_xor]
  rfl
theorem xor_num (r : Cr.Reg) (x : UInt8) : bits .xor .u32 (r.toNat : Int) ((x.toNat : Int) % 4294967296) = ((r ^^^ byteR x).toNat : Int) := by
  have h := x.toNat_lt
  have hr := r.isLt
  have e : (x.toNat : Int) % 4294967296 = (x.toNat : Int) := by omega
  rw [e, u32_xor_nat _ _ (by omega) (by omega), BitVec.toNat_xor]
  unfold byteR
  rw [BitVec.toNat_ofNat, Nat.mod_eq_of_lt (by omega)]

set_option maxHeartbeats 4000000 in
theorem sum_any (l : List UInt8) (b off cap : Nat) (w : World) (hl : l.length ≤ 9223372036854775807) (hc : BC w b off l) :
    Calls Try.prog 8 #[.slice (some ⟨b, off, none⟩) l.length cap] w fun e w' => e = .returned (.int .u32 ((sumB l).toNat : Int)) ∧ w' = w := by
  have HC := hide hc
  clear hc
  go_enter Try.func8, Try.ntmps8
  go_wp2_with fail
  go_loopw [3, 8] (fun a i wr => ∃ m : Nat, m ≤ l.length ∧ i = .int .i64 (m : Int) ∧ ∃ r : Cr.Reg, a = .int .u32 (r.toNat : Int) ∧ Hid ((l.take m).foldl sumStep 0xFFFFFFFF#32 = r) ∧ wr = w) (fun _ i _ => l.length - (intOf i).toNat)
  case atStart => exact ⟨0, Nat.zero_le _, rfl, 0xFFFFFFFF#32, rfl, hide rfl, rfl⟩
  case round =>
    obtain ⟨m, hm, rfl, r, rfl, H, rfl⟩ := hrel
    by_cases hlt : m < l.length
    · have hi1 : (m : Int) < (l.length : Int) := by omega
      obtain ⟨x, hx⟩ : ∃ x, l[m]? = some x := ⟨_, List.getElem?_eq_getElem hlt⟩
      have hcell := unhide HC m x hx
      have E := xor_num r x
      go_wp2_with fail
      go_loopw [3, 16] (fun a j wr' => ∃ k : Nat, k ≤ 8 ∧ j = .int .i64 (k : Int) ∧ ∃ R : Cr.Reg, a = .int .u32 (R.toNat : Int) ∧ Hid (Cr.Ln k (r ^^^ byteR x) = R) ∧ wr' = wr) (fun _ j _ => 8 - (intOf j).toNat)
      case atStart => exact ⟨0, by omega, rfl, _, rfl, hide rfl, rfl⟩
      case round =>
        obtain ⟨k, hk, rfl, R, rfl, HR, rfl⟩ := hrel
        by_cases h8 : k < 8
        · have h8' : (k : Int) < 8 := by omega
          have E2 := L_num R
          have HR2 : Hid (Cr.Ln (k + 1) (r ^^^ byteR x) = Cr.L R) := by
            have h := unhide HR
            refine hide ?_
            rw [← h]
            rfl
          go_wp2_with fail
          go_roundw
          case rel => exact ⟨k + 1, by omega, by go_num, Cr.L R, rfl, HR2, trivial⟩
          case measure => simp [intOf]; omega
        · obtain rfl : k = 8 := by omega
          have HR2 : Hid ((l.take (m + 1)).foldl sumStep 0xFFFFFFFF#32 = R) := by
            refine hide ?_
            have hx' : l[m] = x := by
              rw [List.getElem?_eq_getElem hlt] at hx
              exact Option.some.inj hx
            rw [List.take_succ_eq_append_getElem hlt, List.foldl_append, unhide H, hx']
            exact unhide HR
          go_wp2_with fail
          go_roundw
          case rel => exact ⟨m + 1, by omega, by go_num, R, rfl, HR2, trivial⟩
          case measure => simp [intOf]; omega
    · obtain rfl : m = l.length := by omega
      have E := not_num r
      have hs : sumB l = ~~~ r := by
        unfold sumB sumReg
        have h := unhide H
        rw [List.take_length] at h
        rw [h]
      have HS : Hid ((sumB l).toNat = 4294967295 - r.toNat) := hide (by rw [hs, BitVec.toNat_not])
      clear hs
      go_wp2
      go_ret
      rw [unhide HS]
      exact ⟨rfl, rfl⟩
end Go.Proofs.Ytlienildfnlncaa
