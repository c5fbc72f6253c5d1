/- Walks: bits.Mul64; bits.Div64 by 10^18. -/
import Derived.Test.YthgiepppcpjpaaaMem
import Derived.Lib.Mul64
import Derived.Laws.Bits64b
namespace Go.Proofs.Ythgiepppcpjpaaa
open Go.RowKit

theorem mk_mask (a : Nat) (ha : a < 18446744073709551616) : bits .and .u64 (a : Int) 4294967295 = ((a % 4294967296 : Nat) : Int) := by
  have h := bits_and_u64_nat a 4294967295 ha (by omega)
  rw [show a &&& 4294967295 = a % 4294967296 from Nat.and_two_pow_sub_one_eq_mod a 32] at h
  exact h
theorem mk_wrap (a : Nat) (ha : a < 18446744073709551616) : IntKind.u64.wrap (a : Int) = (a : Int) := by rw [IntKind.wrap_u64]; omega
theorem mk_wrapm (a : Nat) : IntKind.u64.wrap (a : Int) = ((a % 18446744073709551616 : Nat) : Int) := by rw [IntKind.wrap_u64]; omega
theorem mk_div (a : Nat) : (a : Int) / 4294967296 = ((a / 4294967296 : Nat) : Int) := by omega
theorem mk_mul (a b : Nat) : (a : Int) * (b : Int) = ((a * b : Nat) : Int) := (Int.natCast_mul a b).symm
theorem mk_add (a b : Nat) : (a : Int) + (b : Int) = ((a + b : Nat) : Int) := (Int.natCast_add a b).symm

set_option maxHeartbeats 1000000 in
theorem mul64_any (x y : Nat) (hx : x < 18446744073709551616) (hy : y < 18446744073709551616) (w : World) :
    Calls Try.prog 41 #[.int .u64 (x : Int), .int .u64 (y : Int)] w fun e w' => e = .returned (.tuple #[.int .u64 ((x * y / 18446744073709551616 : Nat) : Int), .int .u64 ((x * y % 18446744073709551616 : Nat) : Int)]) ∧ w' = w := by
  obtain ⟨bd, bt, bw, hhi⟩ := Lib.mul64_hi x y hx hy
  have pa := Lib.half_mul_le (a := x / 4294967296) (b := y / 4294967296) (by omega) (by omega)
  have pb := Lib.half_mul_le (a := x / 4294967296) (b := y % 4294967296) (by omega) (by omega)
  have pc := Lib.half_mul_le (a := x % 4294967296) (b := y / 4294967296) (by omega) (by omega)
  have qa : x / 4294967296 * (y / 4294967296) < 18446744073709551616 := by omega
  have qb : x / 4294967296 * (y % 4294967296) < 18446744073709551616 := by omega
  have qc : x % 4294967296 * (y / 4294967296) < 18446744073709551616 := by omega
  have h1 : x / 4294967296 * (y / 4294967296) + (x / 4294967296 * (y % 4294967296) + x % 4294967296 * (y % 4294967296) / 4294967296) / 4294967296 < 18446744073709551616 := by omega
  have h2 : x / 4294967296 * (y / 4294967296) + (x / 4294967296 * (y % 4294967296) + x % 4294967296 * (y % 4294967296) / 4294967296) / 4294967296 + ((x / 4294967296 * (y % 4294967296) + x % 4294967296 * (y % 4294967296) / 4294967296) % 4294967296 + x % 4294967296 * (y / 4294967296)) / 4294967296 < 18446744073709551616 := by omega
  have HH := hide hhi
  clear hhi
  go_enter Try.func41, Try.ntmps41
  go_wp2
  simp only [mk_mask x hx, mk_mask y hy, mk_div, mk_mul, mk_add, mk_wrap _ bd, mk_wrap _ qb, mk_wrap _ bt, mk_mask _ bt, mk_wrap _ qc, mk_wrap _ bw, mk_wrap _ qa, mk_wrap _ h1, mk_wrap _ h2, mk_wrapm (x * y)]
  rw [unhide HH]
  go_ret2
  exact ⟨rfl, rfl⟩
end Go.Proofs.Ythgiepppcpjpaaa
