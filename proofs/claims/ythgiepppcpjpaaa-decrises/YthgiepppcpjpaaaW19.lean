/- Walks: bits.Div64 by 10^18. -/
import Derived.Test.YthgiepppcpjpaaaW18
import Derived.Deep.Cut
import Derived.Deep.CutBlock
namespace Go.Proofs.Ythgiepppcpjpaaa
open Go.RowKit

def dq (h l : Nat) : Nat := (h * 18446744073709551616 + l) / 1000000000000000000
def dr (h l : Nat) : Nat := (h * 18446744073709551616 + l) % 1000000000000000000

set_option maxRecDepth 1000000 in
set_option maxHeartbeats 1000000 in
theorem div64_low (l : Nat) (hl : l < 18446744073709551616) (w : World) :
    Calls Try.prog 42 #[.int .u64 0, .int .u64 (l : Int), .int .u64 1000000000000000000] w fun e w' => e = .returned (.tuple #[.int .u64 (dq 0 l : Int), .int .u64 (dr 0 l : Int)]) ∧ Below w.heap.size w w' := by
  go_enter Try.func42, Try.ntmps42
  go_wp2
  go_quiet (fail)
  go_wp2
  go_ret2
  refine ⟨?_, below_drewN (Below.refl _ _) _⟩
  have e1 : (dq 0 l : Int) = (l : Int) / 1000000000000000000 := by unfold dq; omega
  have e2 : (dr 0 l : Int) = (l : Int) % 1000000000000000000 := by unfold dr; omega
  rw [e1, e2]
  rfl

set_option maxRecDepth 1000000 in
set_option maxHeartbeats 1000000 in
theorem lz_any (w : World) :
    Calls Try.prog 46 #[.int .u64 1000000000000000000] w fun e w' => e = .returned (.int .i64 4) ∧ w' = w := by
  go_enter Try.func46, Try.ntmps46
  go_wp2
  go_ret
  exact ⟨ret_int (by decide +kernel), rfl⟩

theorem and_low (T : Int) (t1 : 0 ≤ T) (t2 : T < 18446744073709551616) : ∃ T0 : Int, bits .and .u64 T 4294967295 = T0 ∧ 0 ≤ T0 ∧ T0 < 4294967296 ∧ T0 = T % 4294967296 := by
  obtain ⟨n, rfl⟩ := Int.eq_ofNat_of_zero_le t1
  exact ⟨_, mk_mask n (by omega), by omega, by omega, by omega⟩
theorem or_low (h l : Nat) (H L : Int) (hH : H = (h : Int)) (hL : L = (l : Int)) (hh : h < 60000000000000000) (hl : l < 18446744073709551616) :
    ∃ U : Int, bits .or .u64 (H * 16) (L / 1152921504606846976) = U ∧ 0 ≤ U ∧ U < 960000000000000016 ∧ U = H * 16 + L / 1152921504606846976 := by
  have e := bits_or_u64_nat (2 ^ 4 * h) (l / 1152921504606846976) (by omega) (by omega)
  rw [← Nat.two_pow_add_eq_or_of_lt (i := 4) (by omega) h] at e
  refine ⟨_, rfl, ?_⟩
  have e1 : H * 16 = ((2 ^ 4 * h : Nat) : Int) := by omega
  have e2 : L / 1152921504606846976 = ((l / 1152921504606846976 : Nat) : Int) := by omega
  rw [e1, e2, e]
  omega

set_option maxRecDepth 1000000 in
set_option maxHeartbeats 1000000 in
theorem div64_high (h l : Nat) (h0 : 1 ≤ h) (hh : h < 60000000000000000) (hl : l < 18446744073709551616) (w : World) :
    Calls Try.prog 42 #[.int .u64 (h : Int), .int .u64 (l : Int), .int .u64 1000000000000000000] w fun e w' => e = .returned (.tuple #[.int .u64 (dq h l : Int), .int .u64 (dr h l : Int)]) ∧ Below w.heap.size w w' := by
  obtain ⟨H, hH⟩ : ∃ H : Int, H = (h : Int) := ⟨_, rfl⟩
  obtain ⟨L, hL⟩ : ∃ L : Int, L = (l : Int) := ⟨_, rfl⟩
  have i1 : 1 ≤ H := by omega
  have i2 : H < 60000000000000000 := by omega
  have i0 : 0 ≤ L := by omega
  have i3 : L < 18446744073709551616 := by omega
  rw [← hH, ← hL]
  obtain ⟨U, b2, u1, u2, hU⟩ : ∃ U : Int, bits .or .u64 (H * 16) (L / 1152921504606846976) = U ∧ 0 ≤ U ∧ U < 960000000000000016 ∧ U = H * 16 + L / 1152921504606846976 := or_low h l H L hH hL (by omega) (by omega)
  obtain ⟨T, b3, t1, t2, hT⟩ : ∃ T : Int, IntKind.u64.wrap (L * 16) = T ∧ 0 ≤ T ∧ T < 18446744073709551616 ∧ T = L * 16 % 18446744073709551616 := ⟨_, IntKind.wrap_u64 _, by omega, by omega, rfl⟩
  obtain ⟨T0, b4, s1, s2, hT0⟩ : ∃ T0 : Int, bits .and .u64 T 4294967295 = T0 ∧ 0 ≤ T0 ∧ T0 < 4294967296 ∧ T0 = T % 4294967296 := and_low T t1 t2
  have b1 : bits .and .u64 16000000000000000000 4294967295 = 1983905792 := by decide +kernel
  obtain ⟨Q, hQ⟩ : ∃ Q : Int, Q = (U * 4294967296 + T / 4294967296) / 16000000000000000000 := ⟨_, rfl⟩
  obtain ⟨R, hR⟩ : ∃ R : Int, R = (U * 4294967296 + T / 4294967296) - Q * 16000000000000000000 := ⟨_, rfl⟩
  have q1 : 0 ≤ Q := by omega
  have q2 : Q ≤ 300000000 := by omega
  have r1 : 0 ≤ R := by omega
  have r2 : R < 16000000000000000000 := by omega
  obtain ⟨Z, hZ⟩ : ∃ Z : Int, Z = (R * 4294967296 + T0) / 16000000000000000000 := ⟨_, rfl⟩
  obtain ⟨E, hE⟩ : ∃ E : Int, E = (R * 4294967296 + T0) - Z * 16000000000000000000 := ⟨_, rfl⟩
  have z1 : 0 ≤ Z := by omega
  have z2 : Z < 4294967296 := by omega
  have k1 : 0 ≤ E := by omega
  have k2 : E < 16000000000000000000 := by omega
  obtain ⟨X1, x1, x1'⟩ : ∃ X : Int, IntKind.u64.wrap (U * 4294967296) = X ∧ X = U * 4294967296 % 18446744073709551616 := ⟨_, IntKind.wrap_u64 _, rfl⟩
  obtain ⟨X2, x2, x2'⟩ : ∃ X : Int, IntKind.u64.wrap (X1 + T / 4294967296) = X ∧ X = (X1 + T / 4294967296) % 18446744073709551616 := ⟨_, IntKind.wrap_u64 _, rfl⟩
  obtain ⟨X3, x3, x3'⟩ : ∃ X : Int, IntKind.u64.wrap (Q * 16000000000000000000) = X ∧ X = Q * 16000000000000000000 % 18446744073709551616 := ⟨_, IntKind.wrap_u64 _, rfl⟩
  have x4 : IntKind.u64.wrap (X2 - X3) = R := by rw [IntKind.wrap_u64]; omega
  obtain ⟨Y1, y1, y1'⟩ : ∃ X : Int, IntKind.u64.wrap (R * 4294967296) = X ∧ X = R * 4294967296 % 18446744073709551616 := ⟨_, IntKind.wrap_u64 _, rfl⟩
  obtain ⟨Y2, y2, y2'⟩ : ∃ X : Int, IntKind.u64.wrap (Y1 + T0) = X ∧ X = (Y1 + T0) % 18446744073709551616 := ⟨_, IntKind.wrap_u64 _, rfl⟩
  obtain ⟨Y3, y3, y3'⟩ : ∃ X : Int, IntKind.u64.wrap (Z * 16000000000000000000) = X ∧ X = Z * 16000000000000000000 % 18446744073709551616 := ⟨_, IntKind.wrap_u64 _, rfl⟩
  have y4 : IntKind.u64.wrap (Y2 - Y3) = E := by rw [IntKind.wrap_u64]; omega
  have FQ : Hid ((dq h l : Int) = Q * 4294967296 + Z ∧ (dr h l : Int) = E / 16) := hide (by unfold dq dr; omega)
  have HQ := hide hQ
  have HR := hide hR
  have HZ := hide hZ
  have bx1 : 0 ≤ X1 := by omega
  have bx2 : 0 ≤ X2 := by omega
  clear h0 hh hl hH hL hU hT hT0 hQ hR hZ hE x1' x2' x3' y1' y2' y3'
  go_enter Try.func42, Try.ntmps42
  go_wp2_with fail
  refine (lz_any _).mono ?_
  rintro e w1 ⟨rfl, rfl⟩
  go_upto_block 0 with fail
  go_cut [15, 16] from 19 (fun a _ wc => a = .int .u64 Q ∧ Below w1.heap.size w1 wc)
  case first =>
    go_wp2_with fail
    go_loop [15, 16] (fun a b => ∃ q r : Int, a = .int .u64 q ∧ b = .int .u64 r ∧ Hid (q * 3725290298 + r = U) ∧ 0 ≤ r ∧ r < 4294967296 ∧ Q ≤ q ∧ q ≤ 300000000) (fun a _ => (intOf a).toNat)
    case atStart => exact ⟨_, _, rfl, rfl, hide (by omega), by omega, by omega, by have := unhide HQ; omega, by omega⟩
    case round =>
      obtain ⟨q, r, rfl, rfl, G, g1, g2, g3, g4⟩ := hrel
      by_cases hc : 4294967296 * r + T / 4294967296 < q * 1983905792
      · have g5 : Q ≤ q - 1 := by have := unhide G; have := unhide HQ; omega
        by_cases hr : 4294967296 ≤ r + 3725290298
        · exfalso; omega
        · go_wp2
          go_round
          case rel => exact ⟨_, _, rfl, rfl, hide (by have := unhide G; omega), by omega, by omega, g5, by omega⟩
          case measure => simp [intOf]; omega
      · go_wp2_with fail
        go_meet
        case rel => exact ⟨by congr 1; have := unhide G; have := unhide HQ; omega, Below.refl _ _⟩
  case rest =>
    obtain ⟨rfl, hbel⟩ := hcut
    go_upto_block 2 with fail
    go_cut [16, 18] from 19 (fun _ a wd => a = .int .u64 Z ∧ Below w1.heap.size w1 wd)
    case first =>
      go_wp2_with fail
      go_loop [16, 18] (fun b a => ∃ q r : Int, a = .int .u64 q ∧ b = .int .u64 r ∧ Hid (q * 3725290298 + r = R) ∧ 0 ≤ r ∧ r < 4294967296 ∧ Z ≤ q ∧ q ≤ 4294967296) (fun _ a => (intOf a).toNat)
      case atStart => exact ⟨_, _, rfl, rfl, hide (by omega), by omega, by omega, by have := unhide HZ; omega, by omega⟩
      case round =>
        obtain ⟨q, r, rfl, rfl, G, g1, g2, g3, g4⟩ := hrel
        by_cases hq : 4294967296 ≤ q
        · have g5 : Z ≤ q - 1 := by omega
          by_cases hr : 4294967296 ≤ r + 3725290298
          · go_wp2_with fail
            go_meet
            case rel => exact ⟨by congr 1; have := unhide G; have := unhide HZ; omega, hbel⟩
          · go_wp2
            go_round
            case rel => exact ⟨_, _, rfl, rfl, hide (by have := unhide G; omega), by omega, by omega, g5, by omega⟩
            case measure => simp [intOf]; omega
        · by_cases hc : 4294967296 * r + T0 < q * 1983905792
          · have g5 : Z ≤ q - 1 := by have := unhide G; have := unhide HZ; omega
            by_cases hr : 4294967296 ≤ r + 3725290298
            · go_wp2_with fail
              go_meet
              case rel => exact ⟨by congr 1; have := unhide G; have := unhide HZ; omega, hbel⟩
            · go_wp2
              go_round
              case rel => exact ⟨_, _, rfl, rfl, hide (by have := unhide G; omega), by omega, by omega, g5, by omega⟩
              case measure => simp [intOf]; omega
          · go_wp2_with fail
            go_meet
            case rel => exact ⟨by congr 1; have := unhide G; have := unhide HZ; omega, hbel⟩
    case rest =>
      obtain ⟨rfl, hbel2⟩ := hcut
      go_wp2
      go_ret2
      refine ⟨?_, hbel2⟩
      rw [(unhide FQ).1, (unhide FQ).2]
      rfl
end Go.Proofs.Ythgiepppcpjpaaa
