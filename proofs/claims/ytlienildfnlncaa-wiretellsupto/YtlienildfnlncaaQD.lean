/- Walks: the document's Parse. -/
import Derived.Test.YtlienildfnlncaaQC
namespace Go.Proofs.Ytlienildfnlncaa
open Go.RowKit

theorem pr_ok {l : List UInt8} {k : Nat} {T : WT} (h : ¬ 100000 < l.length) (hk : l.length = k + 4) (h3 : sumOf (l.drop k) = (sumB (l.take k)).toNat) (hf : fitW T) (ht : treeR k 40 (l.take k) = some (T, [])) (hw : wrongF T = 0) : parseF l = (0, T) := by
  obtain ⟨h1, h2⟩ := tr_good k 40 (Nat.le_refl _) _ _ _ ht
  rw [List.append_nil] at h1
  obtain ⟨hok, _, hc⟩ := wrongW_ok T 1 0 hf hw
  have hT := tree_read T 1 [] 0 hok hc
  rw [List.append_nil, ← h1] at hT
  rw [show 41 - 1 = 40 from rfl] at hT
  rw [pf_ok h hk h3 (by rw [hT]; simp), hT]
theorem pr_no {l : List UInt8} {k : Nat} (h : ¬ 100000 < l.length) (hk : l.length = k + 4) (h3 : sumOf (l.drop k) = (sumB (l.take k)).toNat) (hn : ∀ T, treeR k 40 (l.take k) = some (T, []) → ¬ wrongF T = 0) : parseF l = (2, zeroT) := by
  refine pf_form h hk h3 ?_
  by_cases hb : (treeF 40 ⟨l.take k, 0, false⟩).2.bad = true
  · exact .inl hb
  · right
    intro hl
    have hbf : (treeF 40 ⟨l.take k, 0, false⟩).2.bad = false := by simpa using hb
    obtain ⟨a1, a2, a3, a4, _⟩ := tree_good 40 ⟨l.take k, 0, false⟩ (Nat.le_refl _) hbf
    rw [hl, List.append_nil] at a1
    have a1 : l.take k = enc (treeF 40 ⟨l.take k, 0, false⟩).1 := a1
    have hr := tr_read k (treeF 40 ⟨l.take k, 0, false⟩).1 1 [] a2 (by rw [List.append_nil, ← a1]; simp; omega)
    rw [List.append_nil, ← a1] at hr
    refine hn _ hr ?_
    have := wrongW_of (treeF 40 ⟨l.take k, 0, false⟩).1 1 0 a2 (by rw [← a3]; exact a4)
    unfold wrongF
    rw [this]
theorem four_eq {a b c d : UInt8} {S : Nat} (hS : S < 4294967296) : (sumOf [a, b, c, d] = S) ↔ [a, b, c, d] = four S := by
  constructor
  · intro h
    rw [← h, four_sumOf]
  · intro h
    rw [h]
    exact sumOf_four hS

set_option maxHeartbeats 4000000 in
theorem rparse_any (w : World) (v : Value) (l : List UInt8) (h : BV w v l) : Calls Try.prog 14 #[v] w (PostP w (parseF l)) := by
  obtain ⟨a, cap, rfl, hcap, hc63, hk⟩ := h
  have HB0 := hide (below_new w (.cells #[.int .i64 0, .int .i64 0, .string ⟨#[]⟩, .slice none 0 0] 24))
  by_cases hmuch : 100000 < l.length
  · have hm' : (100000 : Int) < (l.length : Int) := by omega
    rw [pf_much hmuch]
    clear hk hmuch
    go_enter Try.func14, Try.ntmps14
    go_wp2
    exact bodyPost_ret (v := .tuple #[.agg #[.int .i64 0, .int .i64 0, .string ⟨#[]⟩, .slice none 0 0], .int .i64 4]) (by simp [results, Try.results14, go_sem]) rfl ⟨_, rfl, MemWP.zero _ _, unhide HB0⟩
  have hm' : ¬ (100000 : Int) < (l.length : Int) := by omega
  by_cases hfew : l.length < 4
  · have hf' : (l.length : Int) < 4 := by omega
    rw [pf_few hmuch hfew]
    clear hk hmuch hfew
    go_enter Try.func14, Try.ntmps14
    go_wp2
    exact bodyPost_ret (v := .tuple #[.agg #[.int .i64 0, .int .i64 0, .string ⟨#[]⟩, .slice none 0 0], .int .i64 2]) (by simp [results, Try.results14, go_sem]) rfl ⟨_, rfl, MemWP.zero _ _, unhide HB0⟩
  obtain ⟨k, hkl⟩ : ∃ k, l.length = k + 4 := ⟨l.length - 4, by omega⟩
  obtain ⟨g, off, rfl, hg, hbc⟩ := hk (by intro e; rw [e] at hkl; simp at hkl)
  have HF := hide (fun q => pf_fit hmuch hkl q)
  have HN := hide (fun q r => pr_no hmuch hkl q r)
  have HO := hide (fun (T : WT) q r s t => pr_ok (T := T) hmuch hkl q r s t)
  have HKL := hide hkl
  rw [hkl] at hm' hcap ⊢
  have hf' : ¬ ((k : Int) + 4 < 4) := by omega
  have hm2 : ¬ (100000 : Int) < (k : Int) + 4 := by omega
  have hc1 : (k : Int) ≤ (cap : Int) := by omega
  obtain ⟨W0, hW0⟩ : ∃ W0, W0 = w.alloc (.cells #[.int .i64 0, .int .i64 0, .string ⟨#[]⟩, .slice none 0 0] 24) := ⟨_, rfl⟩
  rw [← hW0] at HB0
  have Z0 : Bx W0 w.heap.size (.int .i64 0) (.int .i64 0) (.string ⟨#[]⟩) (.slice none 0 0) := by rw [hW0]; exact Bx.new _ _ _ _ _ _
  have hbc0 : BC W0 g off l := hbc.keep (fun o => (unhide HB0).cell (p := ⟨g, o, none⟩) hg)
  have hbcT : BC W0 g off (l.take k) := fun i x hi => by
    rw [List.getElem?_take] at hi
    split at hi
    · exact hbc0 i x hi
    · cases hi
  have hTl : (l.take k).length = k := by simp; omega
  have C1 := hide (rsum_any (l.take k) g off cap W0 (by omega) hbcT)
  rw [hTl] at C1
  have hs0 := (unhide HB0).size
  obtain ⟨S, hS⟩ : ∃ S, (sumB (l.take k)).toNat = S := ⟨_, rfl⟩
  rw [hS] at C1
  have hS32 : S < 4294967296 := by rw [← hS]; exact (sumB (l.take k)).isLt
  have C2 := hide (rfour_any S W0 hS32)
  have HZ0 := hide Z0
  have HBC := hide hbc0
  have HTl := hide hTl
  have HS := hide hS
  have hlg : g < W0.heap.size := by omega
  clear hbc hbc0 hbcT hTl Z0 hmuch hfew hkl hk hS
  go_enter Try.func14, Try.ntmps14
  go_wp2_with fail
  rw [← hW0]
  clear hW0
  with_reducible refine (unhide C1).mono ?_
  rintro e wx ⟨rfl, hwx⟩
  replace hwx := hwx.symm
  subst hwx
  go_wp2_with fail
  with_reducible refine (unhide C2).mono ?_
  rintro e w1 ⟨v1, rfl, hO1, hb1⟩
  obtain ⟨g1, cap1, hv1, hcap1, _, _, lg1, hbc1⟩ := hO1.shape (by simp [four])
  rw [four_len] at hv1
  subst hv1
  have HB1 := hide (below_via (unhide HB0) hb1)
  have HZ1 := hide ((unhide HZ0).keep hb1)
  have HBC1 := hide ((unhide HBC).keep (fun o => hb1.cell (p := ⟨g, o, none⟩) hlg))
  have HF1 := hide hbc1
  have hlg1 : g < w1.heap.size := Nat.lt_of_lt_of_le hlg hb1.size
  clear C1 C2 hO1 hb1 hbc1 HB0 HZ0 HBC hs0 hlg
  go_wp2_with fail
  go_loopw [26] (fun i wr => ∃ j : Nat, j ≤ 4 ∧ i = .int .i64 (j : Int) ∧ Hid (∀ i, i < j → (l.drop k)[i]? = (four S)[i]?) ∧ wr = w1) (fun i _ => 4 - (intOf i).toNat)
  case atStart => exact ⟨0, by omega, rfl, hide (fun i hi => by omega), rfl⟩
  case round =>
    obtain ⟨j, hj, rfl, HE, rfl⟩ := hrel
    obtain ⟨z0, z1, z2, z3⟩ := (unhide HZ1).tell
    obtain ⟨f0, f1, f2, f3⟩ := (unhide HZ1).thaw
    have lz := (unhide HZ1).low
    have FE := hide (fun v0 v1 v2 v3 => below_put4' (v0 := v0) (v1 := v1) (v2 := v2) (v3 := v3) (unhide HB1))
    by_cases hj4 : j < 4
    · have hj' : (j : Int) < 4 := by omega
      obtain ⟨x, hx⟩ : ∃ x, (four S)[j]? = some x := ⟨_, List.getElem?_eq_getElem (by rw [four_len]; exact hj4)⟩
      obtain ⟨y, hy⟩ : ∃ y, (l.drop k)[j]? = some y := ⟨_, List.getElem?_eq_getElem (by have := unhide HKL; simp; omega)⟩
      have c1 := unhide HF1 j x hx
      rw [Nat.zero_add] at c1
      have c2 := unhide HBC1 (k + j) y (by rw [List.getElem?_drop] at hy; exact hy)
      have i1 : (k : Int) + (j : Int) < (k : Int) + 4 := by omega
      have i2 : (0 : Int) ≤ (k : Int) + (j : Int) := by omega
      have eo : off + (k + j) = off + (k + j) := rfl
      by_cases hxy : y = x
      · subst hxy
        have HE2 : Hid (∀ i, i < j + 1 → (l.drop k)[i]? = (four S)[i]?) := hide fun i hi => by
          rcases Nat.lt_or_ge i j with q | q
          · exact unhide HE i q
          · have : i = j := by omega
            rw [this, hx, hy]
        clear hx hy HE FE
        go_wp2_with fail
        go_roundw
        case rel => exact ⟨j + 1, by omega, by go_num, HE2, trivial⟩
        case measure => simp [intOf]; omega
      · have hne : ((y.toNat : Int) == (x.toNat : Int)) = false := by
          have : ¬ (y.toNat : Int) = (x.toNat : Int) := fun e => hxy (UInt8.toNat_inj.1 (by omega))
          simpa using this
        have hne2 : ((y.toNat : Int) != (x.toNat : Int)) = true := by
          rw [bne, hne]
          rfl
        have HQ : Hid (parseF l = (8, zeroT)) := hide (unhide HF (fun e => by
          obtain ⟨d0, d1, d2, d3, hD⟩ := four_of (l := l.drop k) (by have := unhide HKL; simp; omega)
          rw [hD, unhide HS] at e
          have q := (four_eq hS32).1 e
          rw [hD, q, hx] at hy
          exact hxy (Option.some.inj hy).symm))
        generalize (y.toNat : Int) = yy at *
        generalize (x.toNat : Int) = xx at *
        clear hx hy HE hxy HF HN HO
        go_wp2
        refine bodyPost_ret (v := .tuple #[.agg #[.int .i64 0, .int .i64 0, .string ⟨#[]⟩, .slice none 0 0], .int .i64 8]) (by simp [results, Try.results14, go_sem, z0, z1, z2, z3]) rfl ?_
        rw [unhide HQ]
        exact ⟨_, rfl, MemWP.zero _ _, unhide FE _ _ _ _⟩
    · obtain rfl : j = 4 := by omega
      have hfit : Hid (sumOf (l.drop k) = (sumB (l.take k)).toNat) := hide (by
        rw [unhide HS]
        obtain ⟨d0, d1, d2, d3, hD⟩ := four_of (l := l.drop k) (by have := unhide HKL; simp; omega)
        rw [hD]
        refine (four_eq hS32).2 ?_
        rw [← hD]
        apply List.ext_getElem?
        intro i
        rcases Nat.lt_or_ge i 4 with q | q
        · exact unhide HE i q
        · rw [List.getElem?_eq_none (by rw [hD]; simpa using q), List.getElem?_eq_none (by rw [four_len]; exact q)])
      clear HE
      have hT := unhide HTl
      have C5 := hide (rtree_all 40 (Nat.le_refl _) wr g off cap 0 (l.take k) (by omega) (by omega) (fun i x hi => by
        rw [List.getElem?_take] at hi
        split at hi
        · exact unhide HBC1 i x hi
        · cases hi) hlg1 (Nat.zero_le _))
      rw [hT, show (41 : Int) - ((40 : Nat) : Int) = 1 from rfl, show ((0 : Nat) : Int) = 0 from rfl, List.drop_zero] at C5
      clear hT z0 z1 z2 z3 f0 f1 f2 f3 lz FE HF1 HF
      go_wp2_with fail
      with_reducible refine (unhide C5).mono ?_
      rintro e w2 ⟨cs, q, rfl, hok, hb2⟩
      have HB2 := hide (below_via (unhide HB1) hb2)
      have HZ2 := hide ((unhide HZ1).keep hb2)
      have hlt2 : w.heap.size < wr.heap.size := (unhide HZ1).low
      obtain ⟨z0, z1, z2, z3⟩ := (unhide HZ2).tell
      obtain ⟨f0, f1, f2, f3⟩ := (unhide HZ2).thaw
      have lz := (unhide HZ2).low
      have FE := hide (fun v0 v1 v2 v3 o => below_put4 (v0 := v0) (v1 := v1) (v2 := v2) (v3 := v3) (o := o) (unhide HB2))
      have hs2 := hb2.size
      clear C5 HB1 HZ1 HBC1
      obtain ⟨R, hR⟩ : ∃ R, treeR k 40 (l.take k) = R := ⟨_, rfl⟩
      rw [hR] at hok
      cases R with
      | none =>
        obtain ⟨hq, hM0⟩ := hok
        subst hq
        obtain ⟨eg, en, et, ea, el, ec, rfl⟩ := hM0.four
        have HQ : Hid (parseF l = (2, zeroT)) := hide (unhide HN (unhide hfit) (fun T hT => by rw [hR] at hT; cases hT))
        have hk1 : ((-1 : Int) != (k : Int)) = true := by simp
        clear hM0 hR hb2 HN HO hfit HB2 HZ2
        go_wp2
        refine bodyPost_ret (v := .tuple #[.agg #[.int .i64 0, .int .i64 0, .string ⟨#[]⟩, .slice none 0 0], .int .i64 2]) (by simp [results, Try.results14, go_sem, z0, z1, z2, z3, lz]) rfl ?_
        rw [unhide HQ]
        exact ⟨_, rfl, MemWP.zero _ _, unhide FE _ _ _ _ _⟩
      | some TT =>
        obtain ⟨U, rest⟩ := TT
        obtain ⟨⟨p', hrest, hp', hq⟩, hMU⟩ := hok
        subst hq
        obtain ⟨eg, en, et, ea, el, ec, rfl⟩ := hMU.four
        by_cases hpk : p' = k
        · have hrest0 : rest = [] := by
            rw [hrest, hpk]
            exact List.drop_eq_nil_of_le (by have := unhide HTl; omega)
          subst hpk
          subst hrest0
          have bA := below_new w2 (.cells #[.int .i64 eg, .int .i64 en, .string et, .slice ea el ec] 24)
          have hMm : MemW w2.heap.size w2 U #[.int .i64 eg, .int .i64 en, .string et, .slice ea el ec] := hMU.mem (fun b hb => hb.2)
          have C6 := hide (rwrong_any U _ _ (hMm.grow bA))
          have hfitU := MemWP.fit hMU
          have HM3 : Hid (MemWP (fun b => w.heap.size + 1 ≤ b ∧ b < w2.heap.size) w2 U #[.int .i64 eg, .int .i64 en, .string et, .slice ea el ec]) := hide (hMU.keepB (fun b hb => ⟨⟨by have := hb.1; omega, hb.2⟩, rfl⟩))
          have HBA := hide (below_via (unhide HB2) bA)
          have HZA := hide ((unhide HZ2).keep bA)
          have HbA := hide bA
          have XA := Bx.new w2 24 (.int .i64 eg) (.int .i64 en) (.string et) (.slice ea el ec)
          have HXA := hide XA
          by_cases hw : wrongF U = 0
          · have HQ : Hid (parseF l = (0, U)) := hide (unhide HO U (unhide hfit) hfitU hR hw)
            clear hMm bA XA hR hb2 HN HO hfit hMU hfitU hrest FE
            go_wp2_with fail
            with_reducible refine (unhide C6).mono ?_
            rintro e w5 ⟨rfl, hb5⟩
            have B5 := below_via (unhide HBA) hb5
            have Z5 := (unhide HZA).keep hb5
            have X5 := (unhide HXA).keep hb5
            clear z0 z1 z2 z3 f0 f1 f2 f3 lz
            obtain ⟨z0, z1, z2, z3⟩ := Z5.tell
            obtain ⟨f0, f1, f2, f3⟩ := Z5.thaw
            have lz := Z5.low
            obtain ⟨x0, x1, x2, x3⟩ := X5.tell
            have lx := X5.low
            have hs5 := hb5.size
            simp at hs5
            have FE := hide (fun v0 v1 v2 v3 => below_put4' (v0 := v0) (v1 := v1) (v2 := v2) (v3 := v3) B5)
            have FM : Hid (∀ v0 v1 v2 v3, MemWP (fun b => w.heap.size ≤ b ∧ b < (put4 w5 w.heap.size v0 v1 v2 v3).heap.size) (put4 w5 w.heap.size v0 v1 v2 v3) U #[.int .i64 eg, .int .i64 en, .string et, .slice ea el ec]) :=
              hide fun v0 v1 v2 v3 => (unhide HM3).keepB fun b hb => ⟨⟨by omega, by rw [put4_size]; omega⟩, (put4_block _ _ _ _ _ _ b (by omega)).trans ((hb5.block b (by simp; omega)).trans ((unhide HbA).block b hb.2))⟩
            clear C6 hb5 B5 Z5 X5 HBA HZA HbA HXA HM3 HB2 HZ2
            go_wp2
            refine bodyPost_ret (v := .tuple #[.agg #[.int .i64 eg, .int .i64 en, .string et, .slice ea el ec], .int .i64 0]) (by simp [results, Try.results14, go_sem, z0, z1, z2, z3]) rfl ?_
            rw [unhide HQ]
            exact ⟨_, rfl, unhide FM _ _ _ _, unhide FE _ _ _ _⟩
          · have HQ : Hid (parseF l = (2, zeroT)) := hide (unhide HN (unhide hfit) (fun T hT => by rw [hR] at hT; obtain ⟨rfl, _⟩ := Prod.mk.inj (Option.some.inj hT); exact hw))
            have hw' : (wrongF U != 0) = true := by simpa using hw
            clear hMm bA XA hR hb2 HN HO hfit hMU hfitU hrest FE hw
            go_wp2_with fail
            with_reducible refine (unhide C6).mono ?_
            rintro e w5 ⟨rfl, hb5⟩
            have B5 := below_via (unhide HBA) hb5
            have Z5 := (unhide HZA).keep hb5
            clear z0 z1 z2 z3 f0 f1 f2 f3 lz
            obtain ⟨z0, z1, z2, z3⟩ := Z5.tell
            obtain ⟨f0, f1, f2, f3⟩ := Z5.thaw
            have lz := Z5.low
            have FE := hide (fun v0 v1 v2 v3 => below_put4' (v0 := v0) (v1 := v1) (v2 := v2) (v3 := v3) B5)
            clear C6 hb5 B5 Z5 HBA HZA HbA HXA HM3 HB2 HZ2
            go_wp2
            refine bodyPost_ret (v := .tuple #[.agg #[.int .i64 0, .int .i64 0, .string ⟨#[]⟩, .slice none 0 0], .int .i64 2]) (by simp [results, Try.results14, go_sem, z0, z1, z2, z3]) rfl ?_
            rw [unhide HQ]
            exact ⟨_, rfl, MemWP.zero _ _, unhide FE _ _ _ _⟩
        · have HQ : Hid (parseF l = (2, zeroT)) := hide (unhide HN (unhide hfit) (fun T hT => by
            rw [hR] at hT
            obtain ⟨_, hr2⟩ := Prod.mk.inj (Option.some.inj hT)
            have hl2 := congrArg List.length (hrest.symm.trans hr2)
            have := unhide HTl
            simp only [List.length_drop, List.length_nil] at hl2
            omega))
          have hk1 : ((p' : Int) != (k : Int)) = true := by
            have : ¬ (p' : Int) = (k : Int) := by omega
            simpa using this
          clear hMU hR hb2 HN HO hfit HB2 HZ2 hrest hpk
          generalize (p' : Int) = pq at *
          go_wp2
          refine bodyPost_ret (v := .tuple #[.agg #[.int .i64 0, .int .i64 0, .string ⟨#[]⟩, .slice none 0 0], .int .i64 2]) (by simp [results, Try.results14, go_sem, z0, z1, z2, z3, lz]) rfl ?_
          rw [unhide HQ]
          exact ⟨_, rfl, MemWP.zero _ _, unhide FE _ _ _ _ _⟩
end Go.Proofs.Ytlienildfnlncaa
