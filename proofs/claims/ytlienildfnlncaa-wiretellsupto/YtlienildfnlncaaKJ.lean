/- Walks: the reader's number and text. -/
import Derived.Test.YtlienildfnlncaaKI
namespace Go.Proofs.Ytlienildfnlncaa
open Go.RowKit

theorem nl_bad {f i a : Nat} {s : RS} (h : (i = 9 ∧ 1 < (nextF s).1) ∨ (0 < i ∧ (nextF s).1 = 0)) : numL (f + 1) i a s = (0, (nextF s).2.no) := by rw [numL, if_pos h]
theorem nl_end {f i a : Nat} {s : RS} (h : ¬ ((i = 9 ∧ 1 < (nextF s).1) ∨ (0 < i ∧ (nextF s).1 = 0))) (h2 : (nextF s).1 < 128) : numL (f + 1) i a s = (a + (nextF s).1 * 128 ^ i, (nextF s).2) := by rw [numL, if_neg h, if_pos h2]
theorem nl_go {f i a : Nat} {s : RS} (h : ¬ ((i = 9 ∧ 1 < (nextF s).1) ∨ (0 < i ∧ (nextF s).1 = 0))) (h2 : ¬ (nextF s).1 < 128) : numL (f + 1) i a s = numL f (i + 1) (a + ((nextF s).1 - 128) * 128 ^ i) (nextF s).2 := by rw [numL, if_neg h, if_neg h2]

theorem pow27 (i : Nat) : 2 ^ (7 * i) = 128 ^ i := by rw [Nat.pow_mul]
theorem num_or {i a b : Nat} {x y : Int} (hx : x = (a : Int)) (hy : y = 7 * (i : Int)) (ha : a < 128 ^ i) (hb : b < 256) (hi : i ≤ 9) (hfit : b % 128 * 128 ^ i < 18446744073709551616) (ha2 : a < 18446744073709551616) :
    bits .or .u64 x (IntKind.u64.wrap (IntKind.u64.wrap (bits .andNot .u8 (b : Int) 128) * 2 ^ y.toNat)) = ((a + b % 128 * 128 ^ i : Nat) : Int) := by
  have e1 : bits .andNot .u8 (b : Int) 128 = ((b % 128 : Nat) : Int) := by
    have := u8_andNot_nat b 128 hb (by decide)
    rw [show ((128 : Nat) : Int) = 128 from rfl] at this
    rw [this]
    have q := Nat.and_two_pow_sub_one_eq_mod b 7
    rw [show 2 ^ 7 - 1 = 255 - 128 from rfl] at q
    rw [q]
  have ey : y.toNat = 7 * i := by omega
  have hm : b % 128 < 128 := Nat.mod_lt _ (by decide)
  rw [e1, wraps_u64 ((b % 128 : Nat) : Int) (by omega) (by omega), ey, hx]
  have e2 : (((b % 128 : Nat) : Int) * 2 ^ (7 * i)) = ((b % 128 * 128 ^ i : Nat) : Int) := by
    rw [Int.natCast_mul, ← pow27]
    simp
  rw [e2, wraps_u64 _ (by omega) (by omega)]
  have hj := bits_join_low .u64 64 (by decide) wraps_u64 (7 * i) (a : Int) ((b % 128 * 128 ^ i : Nat) : Int) (by omega) (by
    have : (a : Int) < ((2 ^ (7 * i) : Nat) : Int) := by rw [pow27]; exact Int.ofNat_lt.2 ha
    simpa using this) (by omega) (by omega) (by
    have : ((b % 128 * 128 ^ i : Nat) : Int) % ((2 ^ (7 * i) : Nat) : Int) = 0 := by rw [pow27, ← Int.natCast_emod, Nat.mul_mod_left]; rfl
    simpa using this) (by omega)
  rw [hj]
  simp

set_option maxHeartbeats 4000000 in
theorem number_any (w : World) (R g : Nat) (s : RS) (off cap : Nat) (h : RD w R g s off cap) :
    Calls Try.prog 32 #[.pointer (some ⟨R, 0, none⟩)] w (PostN w R g (numF s) .u64) := by
  have HR := hide h
  clear h
  go_enter Try.func32, Try.ntmps32
  go_wp2_with fail
  go_loopw [3, 4] (fun n sh wr => ∃ (f i a : Nat) (x y : Int) (s' : RS) (off' cap' : Nat), n = .int .u64 x ∧ sh = .int .i64 y ∧ Hid (x = (a : Int)) ∧ Hid (y = 7 * (i : Int)) ∧ Hid (f + i = 9 ∧ a < 128 ^ i) ∧ Hid (numF s = numL (f + 1) i a s') ∧ Hid (RD wr R g s' off' cap') ∧ Hid (But R w wr)) (fun _ sh _ => 64 - (intOf sh).toNat)
  case atStart => exact ⟨9, 0, 0, 0, 0, s, off, cap, rfl, rfl, hide rfl, hide rfl, hide ⟨rfl, by decide⟩, hide rfl, HR, hide (But.refl _ _)⟩
  case round =>
    obtain ⟨f, i, a, x, y, s', off', cap', rfl, rfl, HX, HY, HI, H, HRr, HBr⟩ := hrel
    clear HR
    have C := hide (next_any wr R g s' off' cap' (unhide HRr))
    go_wp2_with fail
    refine (unhide C).mono ?_
    rintro e w2 ⟨rfl, hR2, hB2⟩
    obtain ⟨off2, cap2, hR2⟩ := hR2
    have HR2 := hide hR2
    have HB2 := hide ((unhide HBr).trans hB2)
    have hb := nextF_bd s'
    clear C HRr HBr hB2
    obtain ⟨b, hbE⟩ : ∃ b, (nextF s').1 = b := ⟨_, rfl⟩
    rw [hbE] at hb ⊢
    have HBE := hide hbE
    have c2 := hR2.c2
    have f2 := hR2.f2
    clear hbE hR2
    by_cases hbad : (i = 9 ∧ 1 < b) ∨ (0 < i ∧ b = 0)
    · have HE := hide (nl_bad (f := f) (i := i) (a := a) (s := s') (by rw [unhide HBE]; exact hbad))
      have HRn := hide (unhide HR2).no
      by_cases h9 : i = 9 ∧ 1 < b
      · obtain rfl : y = 63 := by have := unhide HY; omega
        have hb1 : (1 : Int) < (b : Int) := by omega
        go_wp2
        go_ret
        rw [unhide H, unhide HE]
        exact ⟨rfl, ⟨_, _, unhide HRn⟩, (unhide HB2).trans But.set⟩
      · have hb0 : b = 0 := by omega
        subst hb0
        have hi0 : 0 < i := by omega
        have hy0 : (0 : Int) < y := by have := unhide HY; omega
        by_cases h63 : y = 63
        · subst h63
          go_wp2
          go_ret
          rw [unhide H, unhide HE]
          exact ⟨rfl, ⟨_, _, unhide HRn⟩, (unhide HB2).trans But.set⟩
        · have h63' : (y == 63) = false := by simpa using h63
          go_wp2
          go_ret
          rw [unhide H, unhide HE]
          exact ⟨rfl, ⟨_, _, unhide HRn⟩, (unhide HB2).trans But.set⟩
    · have hY := unhide HY
      have hI := unhide HI
      have y0 : 0 ≤ y := by omega
      have y1 : y ≤ 63 := by omega
      have hp8 : i ≤ 8 → 128 ^ i ≤ 72057594037927936 := fun q => Nat.le_trans (Nat.pow_le_pow_right (by decide) q) (by decide)
      have hp9 : i = 9 → 128 ^ i = 9223372036854775808 := fun q => by rw [q]
      have hm : b % 128 < 128 := Nat.mod_lt _ (by decide)
      have ha2 : a < 9223372036854775808 := by
        rcases Nat.lt_or_ge i 9 with q | q
        · have := hp8 (by omega); omega
        · have := hp9 (by omega); omega
      have hfit : b % 128 * 128 ^ i < 9223372036854775809 := by
        rcases Nat.lt_or_ge i 9 with q | q
        · have := Nat.mul_le_mul (Nat.le_of_lt hm) (hp8 (by omega)); omega
        · rw [hp9 (by omega)]
          have : b ≤ 1 := by omega
          have : b % 128 ≤ 1 := by omega
          have := Nat.mul_le_mul_right 9223372036854775808 this
          omega
      have E0 := num_or (unhide HX) hY hI.2 hb (by omega) (by omega) (by omega)
      obtain ⟨r, hr⟩ : ∃ r, a + b % 128 * 128 ^ i = r := ⟨_, rfl⟩
      rw [hr] at E0
      obtain ⟨ρ, hρ⟩ : ∃ ρ : Int, (r : Int) = ρ := ⟨_, rfl⟩
      rw [hρ] at E0
      have HP := hide hρ
      clear hρ
      have HRr := hide hr
      have HEnd : Hid (b < 128 → numF s = (r, (nextF s').2)) := hide fun q => by
        rw [unhide H, nl_end (by rw [unhide HBE]; exact hbad) (by rw [unhide HBE]; exact q), unhide HBE, ← hr, Nat.mod_eq_of_lt q]
      have HGo : Hid (¬ b < 128 → ∃ f', f = f' + 1 ∧ numF s = numL (f' + 1) (i + 1) r (nextF s').2 ∧ r < 128 ^ (i + 1)) := hide fun q => by
        have hi8 : i ≤ 8 := by omega
        refine ⟨f - 1, by omega, ?_, ?_⟩
        · rw [unhide H, nl_go (by rw [unhide HBE]; exact hbad) (by rw [unhide HBE]; exact q), unhide HBE, ← hr, show f - 1 + 1 = f by omega, show b - 128 = b % 128 by omega]
        · rw [← hr, pow128]
          have := Nat.mul_le_mul_right (128 ^ i) (show b % 128 + 1 ≤ 128 by omega)
          rw [Nat.add_mul] at this
          omega
      have hb0' : (0 : Int) ≤ (b : Int) := by omega
      have hb' : (b : Int) < 256 := by omega
      have HHY := hide hY
      have HHI := hide hI
      have HBad := hide hbad
      clear hr hfit ha2 hp8 hp9 hm hY hI hbad
      have k63 : ∃ z : Bool, (y == 63) = z ∧ (z = true → i = 9) := by
        refine ⟨_, rfl, fun q => ?_⟩
        have : y = 63 := by simpa using q
        have := unhide HHY
        omega
      by_cases h63 : y = 63
      · have h63' : (y == 63) = true := by simpa using h63
        have hb1 : b = 1 := by have := unhide HBad; have := unhide HHY; omega
        have hy0 : (0 : Int) < y := by omega
        have hb1' : ¬ (1 : Int) < (b : Int) := by omega
        have hbz : ((b : Int) == 0) = false := by
          have : ¬ (b : Int) = 0 := by omega
          simpa using this
        have h128' : (b : Int) < 128 := by omega
        have HE2 := hide (unhide HEnd (by omega))
        clear hb1
        clear k63 h63 HGo HEnd HBad HBE hb
        generalize (b : Int) = β at *
        go_wp2
        go_ret
        rw [unhide HE2]
        exact ⟨by rw [← unhide HP]; rfl, ⟨_, _, unhide HR2⟩, unhide HB2⟩
      · have h63' : (y == 63) = false := by simpa using h63
        by_cases h0 : y = 0
        · have hy0 : ¬ (0 : Int) < y := by omega
          by_cases h128 : b < 128
          · have h128' : (b : Int) < 128 := by omega
            have HE2 := hide (unhide HEnd h128)
            clear k63 h63 HGo HEnd h0 h128 HBad HBE hb
            generalize (b : Int) = β at *
            go_wp2
            go_ret
            rw [unhide HE2]
            exact ⟨by rw [← unhide HP]; rfl, ⟨_, _, unhide HR2⟩, unhide HB2⟩
          · have h128' : ¬ (b : Int) < 128 := by omega
            obtain ⟨f', hf', hN, hr'⟩ := unhide HGo h128
            have HN := hide hN
            have HR' := hide hr'
            have HF' := hide hf'
            clear k63 h63 HGo HEnd h0 hN hr' hf' h128 HBad HBE hb
            generalize (b : Int) = β at *
            go_wp2
            go_roundw
            case rel => exact ⟨f', i + 1, r, _, _, _, off2, cap2, rfl, rfl, hide (unhide HP).symm, hide (by have := unhide HHY; omega), hide ⟨by have := unhide HHI; have := unhide HF'; omega, unhide HR'⟩, HN, HR2, HB2⟩
            case measure => simp [intOf]; omega
        · have hy0 : (0 : Int) < y := by omega
          have hbz : ((b : Int) == 0) = false := by
            have : ¬ b = 0 := fun e => unhide HBad (.inr ⟨by have := unhide HHY; omega, e⟩)
            have : ¬ (b : Int) = 0 := by omega
            simpa using this
          by_cases h128 : b < 128
          · have h128' : (b : Int) < 128 := by omega
            have HE2 := hide (unhide HEnd h128)
            clear k63 h63 HGo HEnd h0 h128 HBad HBE hb
            generalize (b : Int) = β at *
            go_wp2
            go_ret
            rw [unhide HE2]
            exact ⟨by rw [← unhide HP]; rfl, ⟨_, _, unhide HR2⟩, unhide HB2⟩
          · have h128' : ¬ (b : Int) < 128 := by omega
            obtain ⟨f', hf', hN, hr'⟩ := unhide HGo h128
            have HN := hide hN
            have HR' := hide hr'
            have HF' := hide hf'
            clear k63 h63 HGo HEnd h0 hN hr' hf' h128 HBad HBE hb
            generalize (b : Int) = β at *
            go_wp2
            go_roundw
            case rel => exact ⟨f', i + 1, r, _, _, _, off2, cap2, rfl, rfl, hide (unhide HP).symm, hide (by have := unhide HHY; omega), hide ⟨by have := unhide HHI; have := unhide HF'; omega, unhide HR'⟩, HN, HR2, HB2⟩
            case measure => simp [intOf]; omega
theorem numF_bd (s : RS) : (numF s).1 < 18446744073709551616 := by
  have gen : ∀ (f i a : Nat) (s : RS), f + i = 10 → i ≤ 9 → a < 128 ^ i → (numL f i a s).1 < 18446744073709551616 := by
    intro f
    induction f with
    | zero => intro i a s h1 h2; omega
    | succ f ih =>
      intro i a s h1 h2 ha
      have hb := nextF_bd s
      rw [numL]
      split
      · simp only; decide
      · rename_i q
        split
        · rename_i q2
          simp only
          rcases Nat.lt_or_ge i 9 with q3 | q3
          · have h8 : 128 ^ i ≤ 72057594037927936 := Nat.le_trans (Nat.pow_le_pow_right (by decide) (show i ≤ 8 by omega)) (by decide)
            have := Nat.mul_le_mul (Nat.le_of_lt q2) h8
            omega
          · have h9 : 128 ^ i = 9223372036854775808 := by rw [show i = 9 by omega]
            rw [h9] at ha ⊢
            have h1 : (nextF s).1 ≤ 1 := by omega
            have := Nat.mul_le_mul_right 9223372036854775808 h1
            omega
        · rename_i q2
          have h8 : i ≤ 8 := by omega
          refine ih (i + 1) _ _ (by omega) (by omega) ?_
          rw [pow128]
          have := Nat.mul_le_mul_right (128 ^ i) (show (nextF s).1 - 128 + 1 ≤ 128 by omega)
          rw [Nat.add_mul] at this
          omega
  exact gen 10 0 0 s rfl (by decide) (by decide)
end Go.Proofs.Ytlienildfnlncaa
