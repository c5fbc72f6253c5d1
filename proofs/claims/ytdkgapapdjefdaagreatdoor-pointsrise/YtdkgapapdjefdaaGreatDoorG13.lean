/- Walks: bits.Div64 by 10^18. -/
import Derived.Test.YtdkgapapdjefdaaGreatDoorG11
import Derived.Deep.Cut
import Derived.Deep.CutBlock
namespace Go.Proofs.YtdkgapapdjefdaaGreatDoor
open Go.RowKit

def dq (h l : Nat) : Nat := (h * 18446744073709551616 + l) / 1000000000000000000
def dr (h l : Nat) : Nat := (h * 18446744073709551616 + l) % 1000000000000000000

theorem and_low (T : Int) (t1 : 0 ≤ T) (t2 : T < 18446744073709551616) : ∃ T0 : Int, bits .and .u64 T 4294967295 = T0 ∧ 0 ≤ T0 ∧ T0 < 4294967296 ∧ T0 = T % 4294967296 := by
  obtain ⟨n, rfl⟩ := Int.eq_ofNat_of_zero_le t1
  exact ⟨_, mk_mask n (by omega), by omega, by omega, by omega⟩
theorem or_low (h l : Nat) (H L : Int) (hH : H = (h : Int)) (hL : L = (l : Int)) (hh : h < 60000000000000000) (hl : l < 18446744073709551616) :
    ∃ U : Int, bits .or .u64 (H * 16) (L / 1152921504606846976) = U ∧ 0 ≤ U ∧ U < 960000000000000016 ∧ U = H * 16 + L / 1152921504606846976 := by
  have e := bits_or_u64_nat (2 ^ 4 * h) (l / 1152921504606846976) (by omega) (by omega)
  rw [← Nat.two_pow_add_eq_or_of_lt (i := 4) (by omega) h] at e
  refine ⟨_, rfl, ?_⟩
  have e1 : H * 16 = ((2 ^ 4 * h : Nat) : Int) := by omega
  have e2 : L / 1152921504606846976 = ((l / 1152921504606846976 : Nat) : Int) := by omega
  rw [e1, e2, e]
  omega
end Go.Proofs.YtdkgapapdjefdaaGreatDoor
