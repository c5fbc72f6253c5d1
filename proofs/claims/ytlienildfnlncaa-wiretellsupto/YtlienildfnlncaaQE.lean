/- Walks: sums of whatever slice. -/
import Derived.Test.YtlienildfnlncaaQD
namespace Go.Proofs.Ytlienildfnlncaa
open Go.RowKit

set_option maxHeartbeats 4000000 in
theorem sumV_any (l : List UInt8) (a0 : Option Addr) (cap : Nat) (w : World) (hl : l.length ≤ 9223372036854775807) (hc : l ≠ [] → ∃ b off, a0 = some ⟨b, off, none⟩ ∧ b < w.heap.size ∧ BC w b off l) :
    Calls Try.prog 8 #[.slice a0 l.length cap] w fun e w' => e = .returned (.int .u32 ((sumB l).toNat : Int)) ∧ w' = w := by
  have HC := hide hc
  clear hc
  go_enter Try.func8, Try.ntmps8
  go_wp2_with fail
  go_loopw [3, 8] (fun a i wr => ∃ m : Nat, m ≤ l.length ∧ i = .int .i64 (m : Int) ∧ ∃ r : Cr.Reg, a = .int .u32 (r.toNat : Int) ∧ Hid ((l.take m).foldl sumStep 0xFFFFFFFF#32 = r) ∧ wr = w) (fun _ i _ => l.length - (intOf i).toNat)
  case atStart => exact ⟨0, Nat.zero_le _, rfl, 0xFFFFFFFF#32, rfl, hide rfl, rfl⟩
  case round =>
    obtain ⟨m, hm, rfl, r, rfl, H, rfl⟩ := hrel
    by_cases hlt : m < l.length
    · have hi1 : (m : Int) < (l.length : Int) := by omega
      obtain ⟨x, hx⟩ : ∃ x, l[m]? = some x := ⟨_, List.getElem?_eq_getElem hlt⟩
      obtain ⟨b, off, rfl, _, hcb⟩ := unhide HC (by intro e; rw [e] at hlt; simp at hlt)
      have hcell := hcb m x hx
      clear hcb
      have E := xor_num r x
      go_wp2_with fail
      go_loopw [3, 16] (fun a j wr' => ∃ k : Nat, k ≤ 8 ∧ j = .int .i64 (k : Int) ∧ ∃ R : Cr.Reg, a = .int .u32 (R.toNat : Int) ∧ Hid (Cr.Ln k (r ^^^ byteR x) = R) ∧ wr' = wr) (fun _ j _ => 8 - (intOf j).toNat)
      case atStart => exact ⟨0, by omega, rfl, _, rfl, hide rfl, rfl⟩
      case round =>
        obtain ⟨k, hk, rfl, R, rfl, HR, rfl⟩ := hrel
        by_cases h8 : k < 8
        · have h8' : (k : Int) < 8 := by omega
          have E2 := L_num R
          have HR2 : Hid (Cr.Ln (k + 1) (r ^^^ byteR x) = Cr.L R) := by
            have h := unhide HR
            refine hide ?_
            rw [← h]
            rfl
          go_wp2_with fail
          go_roundw
          case rel => exact ⟨k + 1, by omega, by go_num, Cr.L R, rfl, HR2, trivial⟩
          case measure => simp [intOf]; omega
        · obtain rfl : k = 8 := by omega
          have HR2 : Hid ((l.take (m + 1)).foldl sumStep 0xFFFFFFFF#32 = R) := by
            refine hide ?_
            have hx' : l[m] = x := by
              rw [List.getElem?_eq_getElem hlt] at hx
              exact Option.some.inj hx
            rw [List.take_succ_eq_append_getElem hlt, List.foldl_append, unhide H, hx']
            exact unhide HR
          go_wp2_with fail
          go_roundw
          case rel => exact ⟨m + 1, by omega, by go_num, R, rfl, HR2, trivial⟩
          case measure => simp [intOf]; omega
    · obtain rfl : m = l.length := by omega
      have E := not_num r
      have hs : sumB l = ~~~ r := by
        unfold sumB sumReg
        have h := unhide H
        rw [List.take_length] at h
        rw [h]
      have HS : Hid ((sumB l).toNat = 4294967295 - r.toNat) := hide (by rw [hs, BitVec.toNat_not])
      clear hs
      go_wp2
      go_ret
      rw [unhide HS]
      exact ⟨rfl, rfl⟩

set_option maxHeartbeats 4000000 in
theorem rsumV_any (l : List UInt8) (a0 : Option Addr) (cap : Nat) (w : World) (hl : l.length ≤ 9223372036854775807) (hc : l ≠ [] → ∃ b off, a0 = some ⟨b, off, none⟩ ∧ b < w.heap.size ∧ BC w b off l) :
    Calls Try.prog 9 #[.slice a0 l.length cap] w fun e w' => e = .returned (.int .u32 ((sumB l).toNat : Int)) ∧ w' = w := by
  have HC := hide hc
  clear hc
  go_enter Try.func9, Try.ntmps9
  go_wp2_with fail
  go_loopw [3, 13] (fun a i wr => ∃ m : Nat, m ≤ l.length ∧ i = .int .i64 (m : Int) ∧ ∃ (q : Cr.Reg) (z : Int), a = .int .u64 z ∧ Hid (z = (q.toNat : Int)) ∧ Hid (Rv q ((l.take m).foldl sumStep 0xFFFFFFFF#32)) ∧ wr = w) (fun _ i _ => l.length - (intOf i).toNat)
  case atStart => exact ⟨0, Nat.zero_le _, rfl, 0xFFFFFFFF#32, _, rfl, hide rfl, hide rv_ones, rfl⟩
  case round =>
    obtain ⟨m, hm, rfl, q, z, rfl, HZ, H, rfl⟩ := hrel
    by_cases hlt : m < l.length
    · have hi1 : (m : Int) < (l.length : Int) := by omega
      obtain ⟨x, hx⟩ : ∃ x, l[m]? = some x := ⟨_, List.getElem?_eq_getElem hlt⟩
      obtain ⟨b, off, rfl, _, hcb⟩ := unhide HC (by intro e; rw [e] at hlt; simp at hlt)
      have hcell := hcb m x hx
      clear hcb
      have HXL := hide hx
      obtain ⟨y, hy⟩ : ∃ y : Int, (x.toNat : Int) = y := ⟨_, rfl⟩
      rw [hy] at hcell
      have HY := hide hy
      obtain ⟨r, hr⟩ : ∃ r, (l.take m).foldl sumStep 0xFFFFFFFF#32 = r := ⟨_, rfl⟩
      rw [hr] at H
      have HR := hide hr
      clear hr hy hx
      go_wp2_with fail
      go_loopw [3, 6] (fun a j wr' => ∃ k : Nat, k ≤ 8 ∧ j = .int .i64 (k : Int) ∧ ∃ (q' : Cr.Reg) (z' : Int), a = .int .u64 z' ∧ Hid (z' = (q'.toNat : Int)) ∧ Hid (Rv q' (rr r x k)) ∧ wr' = wr) (fun _ j _ => 8 - (intOf j).toNat)
      case atStart => exact ⟨0, by omega, rfl, q, z, rfl, HZ, H, rfl⟩
      case round =>
        obtain ⟨k, hk, rfl, q', z', rfl, HZ', H', rfl⟩ := hrel
        by_cases h8 : k < 8
        · have h8' : (k : Int) < 8 := by omega
          have E1 := top_num (unhide HZ')
          have E2 := bit_num (k := k) (unhide HY)
          have E3 := shl_num (unhide HZ')
          obtain ⟨z2, hz2⟩ : ∃ z2 : Int, ((q' <<< 1).toNat : Int) = z2 := ⟨_, rfl⟩
          have E4 := xor_rp hz2.symm
          rw [hz2] at E3
          obtain ⟨z3, hz3⟩ : ∃ z3 : Int, ((q' <<< 1 ^^^ rpoly).toNat : Int) = z3 := ⟨_, rfl⟩
          rw [hz3] at E4
          have HSt := hide ((unhide H').step ((byteR x).getLsbD k))
          obtain ⟨t1, ht1⟩ : ∃ t1, bitI (q'.getLsbD 31) = t1 := ⟨_, rfl⟩
          obtain ⟨t2, ht2⟩ : ∃ t2, bitI ((byteR x).getLsbD k) = t2 := ⟨_, rfl⟩
          have hcmp := bitI_ne (q'.getLsbD 31) ((byteR x).getLsbD k)
          rw [ht1, ht2] at hcmp
          rw [ht1] at E1
          rw [ht2] at E2
          have H2 := hide hz2
          have H3 := hide hz3
          clear hz2 hz3 ht1 ht2
          by_cases hb : q'.getLsbD 31 = (byteR x).getLsbD k
          · rw [hb] at hcmp
            simp only [BEq.rfl, Bool.not_true] at hcmp
            have HN : Hid (Rv (q' <<< 1) (rr r x (k + 1))) := by
              have h := unhide HSt
              unfold refStep at h
              rw [if_pos hb] at h
              exact hide h
            clear HSt hb H'
            go_wp2_with fail
            go_roundw
            case rel => exact ⟨k + 1, by omega, by go_num, q' <<< 1, z2, rfl, hide (unhide H2).symm, HN, trivial⟩
            case measure => simp [intOf]; omega
          · have hcmp' : (t1 != t2) = true := by
              rw [hcmp]
              cases h1 : q'.getLsbD 31 <;> cases h2 : (byteR x).getLsbD k <;> rw [h1, h2] at hb <;> first | rfl | exact absurd rfl hb
            have HN : Hid (Rv (q' <<< 1 ^^^ rpoly) (rr r x (k + 1))) := by
              have h := unhide HSt
              unfold refStep at h
              rw [if_neg hb] at h
              exact hide h
            clear HSt hb H' hcmp
            go_wp2_with fail
            go_roundw
            case rel => exact ⟨k + 1, by omega, by go_num, q' <<< 1 ^^^ rpoly, z3, rfl, hide (unhide H3).symm, HN, trivial⟩
            case measure => simp [intOf]; omega
        · obtain rfl : k = 8 := by omega
          have HN : Hid (Rv q' ((l.take (m + 1)).foldl sumStep 0xFFFFFFFF#32)) := by
            refine hide ?_
            have hx' : l[m] = x := by
              have hx := unhide HXL
              rw [List.getElem?_eq_getElem hlt] at hx
              exact Option.some.inj hx
            rw [List.take_succ_eq_append_getElem hlt, List.foldl_append, unhide HR, hx']
            show Rv q' (sumStep r x)
            rw [← rr_eight]
            exact unhide H'
          go_wp2_with fail
          go_roundw
          case rel => exact ⟨m + 1, by omega, by go_num, q', z', rfl, HZ', HN, trivial⟩
          case measure => simp [intOf]; omega
    · obtain rfl : m = l.length := by omega
      have HF : Hid (Rv q (sumReg l)) := by
        have h := unhide H
        rw [List.take_length] at h
        exact hide h
      clear H
      go_wp2_with fail
      go_loopw [9, 10] (fun a j wr' => ∃ k : Nat, k ≤ 32 ∧ j = .int .i64 (k : Int) ∧ ∃ (o : Cr.Reg) (zo : Int), a = .int .u32 zo ∧ Hid (zo = (o.toNat : Int)) ∧ Hid (∀ i, i < 32 → o.getLsbD i = (decide (31 - i < k) && !q.getLsbD (31 - i))) ∧ wr' = wr) (fun _ j _ => 32 - (intOf j).toNat)
      case atStart => exact ⟨0, by omega, rfl, 0#32, 0, rfl, hide rfl, hide (by intro i hi; simp), rfl⟩
      case round =>
        obtain ⟨k, hk, rfl, o, zo, rfl, HZo, HO, rfl⟩ := hrel
        by_cases h32 : k < 32
        · have h32' : (k : Int) < 32 := by omega
          have E1 := bit2_num (k := k) (unhide HZ)
          cases hb : q.getLsbD k with
          | true =>
            rw [hb] at E1
            have E1' : bits .and .u64 (z / 2 ^ k) 1 = 1 := E1
            have HN : Hid (∀ i, i < 32 → o.getLsbD i = (decide (31 - i < k + 1) && !q.getLsbD (31 - i))) := hide fun i hi => by
              rw [unhide HO i hi]
              by_cases e : 31 - i = k
              · rw [e, hb]
                simp
              · have : (31 - i < k) = (31 - i < k + 1) := by
                  apply propext
                  omega
                simp only [this]
            clear E1 HO hb
            go_wp2_with fail
            go_roundw
            case rel => exact ⟨k + 1, by omega, by go_num, o, zo, rfl, HZo, HN, trivial⟩
            case measure => simp [intOf]; omega
          | false =>
            rw [hb] at E1
            have E1' : bits .and .u64 (z / 2 ^ k) 1 = 0 := E1
            have E2 := or_num h32 (unhide HZo)
            obtain ⟨z2, hz2⟩ : ∃ z2 : Int, ((o ||| (1#32 <<< (31 - k))).toNat : Int) = z2 := ⟨_, rfl⟩
            rw [hz2] at E2
            have H2 := hide hz2
            have HN : Hid (∀ i, i < 32 → (o ||| (1#32 <<< (31 - k))).getLsbD i = (decide (31 - i < k + 1) && !q.getLsbD (31 - i))) := hide fun i hi => by
              rw [or_bit h32 hi, unhide HO i hi]
              by_cases e : 31 - i = k
              · rw [e, hb]
                simp
              · have : (31 - i < k) = (31 - i < k + 1) := by
                  apply propext
                  omega
                simp only [this, decide_eq_false e, Bool.or_false]
            clear E1 HO hb hz2
            go_wp2_with fail
            go_roundw
            case rel => exact ⟨k + 1, by omega, by go_num, o ||| (1#32 <<< (31 - k)), z2, rfl, hide (unhide H2).symm, HN, trivial⟩
            case measure => simp [intOf]; omega
        · obtain rfl : k = 32 := by omega
          have HS : Hid ((sumB l).toNat = o.toNat) := by
            refine hide ?_
            congr 1
            unfold sumB
            apply BitVec.eq_of_getLsbD_eq
            intro i hi
            have h1 := unhide HO i hi
            have h2 := unhide HF (31 - i) (by omega)
            rw [h1, h2, show 31 - (31 - i) = i by omega, decide_eq_true (by omega), BitVec.getLsbD_not]
            simp [hi]
          have HZ2 : Hid (zo = ((sumB l).toNat : Int)) := hide (by rw [unhide HZo, unhide HS])
          clear HZo HO HS HF
          go_wp2
          go_ret
          rw [← unhide HZ2]
          exact ⟨rfl, rfl⟩
end Go.Proofs.Ytlienildfnlncaa
