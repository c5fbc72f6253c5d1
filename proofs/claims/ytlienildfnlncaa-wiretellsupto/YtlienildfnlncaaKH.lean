/- Walks: Bytes. -/
import Derived.Test.YtlienildfnlncaaKG
namespace Go.Proofs.Ytlienildfnlncaa
open Go.RowKit
open Go.Lib (uvarint zigzag uvarint_small uvarint_big)

/-- a sum in four bytes, the lowest first -/
def four (s : Nat) : List UInt8 := [(s % 256).toUInt8, (s / 256 % 256).toUInt8, (s / 65536 % 256).toUInt8, (s / 16777216 % 256).toUInt8]
theorem cell_four_at (w : World) (x0 x1 x2 x3 : Value) (t : TypeId) (k : Nat) (hk : w.heap.size = k) : ∀ j u, [x0, x1, x2, x3][j]? = some u → (w.alloc (.cells #[x0, x1, x2, x3] t)).cell? ((⟨k, 0, none⟩ : Addr).add j) = some u := by
  subst hk
  intro j u h
  rw [Addr.add_lit]
  have hj : j < 4 := by
    rcases Nat.lt_or_ge j 4 with q | q
    · exact q
    · rw [List.getElem?_eq_none (by simpa using q)] at h; cases h
  rcases (by omega : j = 0 ∨ j = 1 ∨ j = 2 ∨ j = 3) with rfl | rfl | rfl | rfl <;> (simp at h; subst h; simp [go_sem])
theorem one_four (k : IntKind) (a b c d : Int) : ∀ u ∈ [Value.int k a, Value.int k b, Value.int k c, Value.int k d], u.oneCell' = true := by
  intro u hu
  simp at hu
  rcases hu with rfl | rfl | rfl | rfl <;> rfl

set_option maxHeartbeats 2000000 in
theorem withSum_any (B : Nat) (w : World) (v : Value) (l : List UInt8) (s : Nat) (hO : Own B w v l) (hB : B ≤ w.heap.size) (hl : l.length ≤ 1000000000) (hs : s < 4294967296) :
    Calls Try.prog 20 #[v, .int .u32 (s : Int)] w (PostO B w v (l ++ four s)) := by
  have HO := hide hO
  obtain ⟨i0, hi, hz0, hz1, hz2⟩ := info_parts info_u8
  have I0 := hide hi
  have I1 := hide hz0
  have I2 := hide hz1
  have I3 := hide hz2
  clear hi hz0 hz1 hz2 hO
  obtain ⟨b0, hb0⟩ : ∃ b0, s % 256 = b0 := ⟨_, rfl⟩
  obtain ⟨b1, hb1⟩ : ∃ b1, s / 256 % 256 = b1 := ⟨_, rfl⟩
  obtain ⟨b2, hb2⟩ : ∃ b2, s / 65536 % 256 = b2 := ⟨_, rfl⟩
  obtain ⟨b3, hb3⟩ : ∃ b3, s / 16777216 % 256 = b3 := ⟨_, rfl⟩
  have e0 : (s : Int) % 256 = (b0 : Int) := by omega
  have e1 : (s : Int) / 256 % 256 = (b1 : Int) := by omega
  have e2 : (s : Int) / 65536 % 256 = (b2 : Int) := by omega
  have e3 : (s : Int) / 16777216 = (b3 : Int) := by omega
  have HE : Hid (bcs (four s) = [.int .u8 (b0 : Int), .int .u8 (b1 : Int), .int .u8 (b2 : Int), .int .u8 (b3 : Int)]) := by
    refine hide ?_
    unfold four
    rw [hb0, hb1, hb2, hb3]
    have q : ∀ b : Nat, b < 256 → ((b.toUInt8).toNat : Int) = (b : Int) := fun b h => by simp [Nat.toUInt8]; omega
    show [Value.int .u8 ((b0.toUInt8).toNat : Int), Value.int .u8 ((b1.toUInt8).toNat : Int), Value.int .u8 ((b2.toUInt8).toNat : Int), Value.int .u8 ((b3.toUInt8).toNat : Int)] = _
    rw [q b0 (by omega), q b1 (by omega), q b2 (by omega), q b3 (by omega)]
  have m1 : Hid (l.length + 4 ≤ maxLen) := hide (by unfold maxLen; omega)
  have m2 : Hid ((l.length + 4) * 1 ≤ 140737488355328) := hide (by omega)
  have m3 : ∀ o, Hid (B ≤ (w.alloc o).heap.size) := fun o => hide (by simp; omega)
  clear hb0 hb1 hb2 hb3
  go_enter Try.func20, Try.ntmps20
  go_wp2_with (at_builtin; refine wpList_append_own_at _ rfl _ _ 25 rfl B 5 i0 (.int .u8 0) 1 1 Try.underlying25 (unhide I0) (unhide I1) (unhide I2) (unhide I3) rfl (by decide) _ _ _ rfl ((unhide HO).alloc _) ⟨w.heap.size, 0, none⟩ 4 4 [.int .u8 (b0 : Int), .int .u8 (b1 : Int), .int .u8 (b2 : Int), .int .u8 (b3 : Int)] rfl rfl (cell_four_at _ _ _ _ _ _ _ rfl) (one_four _ _ _ _ _) (unhide m1) (unhide m2) (unhide (m3 _)) ?_)
  intro v1 w1 own' hgrow _ hat
  have HO1 := hide (own_app (unhide HE) rfl own')
  have HG1 := hide ((Gw.of (below_new w (.cells #[.int .u8 (b0 : Int), .int .u8 (b1 : Int), .int .u8 (b2 : Int), .int .u8 (b3 : Int)] 5))).trans ⟨hgrow, hat.imp id fun e => ⟨_, e, by simp⟩⟩)
  clear own' hgrow hat HE HO
  go_wp2
  go_ret
  exact ⟨_, rfl, unhide HO1, unhide HG1⟩

/-- what Bytes tells: the error, the bytes -/
def bytesF (T : WT) : Int × List UInt8 := if ¬ wrongF T = 0 then (wrongF T, []) else if 99996 < (enc T).length then (4, []) else (0, enc T ++ four (sumB (enc T)).toNat)
def PostB (w : World) (r : Int × List UInt8) (e : Ending) (w' : World) : Prop := ∃ v', e = .returned (.tuple #[v', .int .i64 r.1]) ∧ Own w.heap.size w' v' r.2 ∧ Below w.heap.size w w'
theorem bf_wrong {T : WT} (h : ¬ wrongF T = 0) : bytesF T = (wrongF T, []) := by unfold bytesF; rw [if_pos h]
theorem bf_much {T : WT} (h : wrongF T = 0) (h2 : 99996 < (enc T).length) : bytesF T = (4, []) := by unfold bytesF; rw [if_neg (fun q => q h), if_pos h2]
theorem bf_ok {T : WT} (h : wrongF T = 0) (h2 : ¬ 99996 < (enc T).length) : bytesF T = (0, enc T ++ four (sumB (enc T)).toNat) := by unfold bytesF; rw [if_neg (fun q => q h), if_neg h2]
theorem enc_ne (T : WT) : enc T ≠ [] := by
  cases T
  rw [enc]
  simp

set_option maxHeartbeats 4000000 in
theorem bytes_any (T : WT) (tv : Array Value) (w : World) (hM : MemW w.heap.size w T tv) : Calls Try.prog 10 #[.agg tv] w (PostB w (bytesF T)) := by
  have HM := hide hM
  have HFit := hide (MemWP.fit hM)
  have hM0 := hM
  clear hM
  obtain ⟨g, n, t, ks, rfl⟩ : ∃ g n t ks, T = .mk g n t ks := by cases T; exact ⟨_, _, _, _, rfl⟩
  rw [MemW, MemWP] at hM0
  obtain ⟨hn, ht, hk, a, cap, rfl, _⟩ := hM0
  obtain ⟨T, hT⟩ : ∃ T, T = WT.mk g n t ks := ⟨_, rfl⟩
  rw [← hT] at HM HFit ⊢
  clear hT
  obtain ⟨W0, hW0⟩ : ∃ W0, W0 = w.alloc (.cells #[.int .i64 g, .int .i64 n, .string t, .slice a ks.length cap] 24) := ⟨_, rfl⟩
  have b0 : Below w.heap.size w W0 := by rw [hW0]; exact below_new _ _
  have hX : W0.heap.size = w.heap.size + 1 := by rw [hW0]; simp
  have hcells : W0.cell? ⟨w.heap.size, 0, none⟩ = some (.int .i64 g) ∧ W0.cell? ⟨w.heap.size, 1, none⟩ = some (.int .i64 n) ∧ W0.cell? ⟨w.heap.size, 2, none⟩ = some (.string t) ∧ W0.cell? ⟨w.heap.size, 3, none⟩ = some (.slice a ks.length cap) := by
    rw [hW0]
    exact ⟨by go_simp, by go_simp, by go_simp, by go_simp⟩
  have C1 := hide (wrong_any T _ W0 (((unhide HM).below b0).mono (by omega)))
  have HB0 := hide b0
  have HX := hide hX
  clear b0 hX
  go_enter Try.func10, Try.ntmps10
  go_wp2_with fail
  rw [← hW0]
  refine (unhide C1).mono ?_
  rintro e w1 ⟨rfl, hb1⟩
  have c : ∀ o, w1.cell? ⟨w.heap.size, o, none⟩ = W0.cell? ⟨w.heap.size, o, none⟩ := fun o => hb1.cell (p := ⟨w.heap.size, o, none⟩) (by have := unhide HX; simp only; omega)
  obtain ⟨x0, x1, x2, x3⟩ : w1.cell? ⟨w.heap.size, 0, none⟩ = some (.int .i64 g) ∧ w1.cell? ⟨w.heap.size, 1, none⟩ = some (.int .i64 n) ∧ w1.cell? ⟨w.heap.size, 2, none⟩ = some (.string t) ∧ w1.cell? ⟨w.heap.size, 3, none⟩ = some (.slice a ks.length cap) := by
    simp only [c]
    exact hcells
  have HB1 := hide ((unhide HB0).trans (hb1.mono (by have := unhide HX; omega)))
  have hs1 : w.heap.size ≤ w1.heap.size := (unhide HB1).size
  clear hb1 C1 HB0 HX hcells hW0 c
  by_cases hw : wrongF T = 0
  · have HW := hide hw
    have hok := wrongW_ok T 1 0 (unhide HFit) hw
    have C2 := hide (with_all T w.heap.size w1 (.slice none 0 0) _ [] 100000 1 (Own.nil _ _) hs1 ((unhide HM).below (unhide HB1)) hok.1 (Nat.le_refl _) (by simp) (by omega))
    have HC := hide hok.2.2
    clear hok
    go_wp2_with fail
    refine (unhide C2).mono ?_
    rintro e w2 ⟨v2, rfl, hO2, hG2⟩
    have HB2 := hide ((unhide HB1).trans (hG2.old (Own.nil _ _) hs1))
    have hs2 : w.heap.size ≤ w2.heap.size := (unhide HB2).size
    have HO2 := hide hO2
    clear hG2 hO2 C2 x0 x1 x2 x3 HB1 hs1 hw
    cases hr : (withF T []).2 with
    | false =>
      have hmuch : 99996 < (enc T).length := by
        rcases Nat.lt_or_ge 99996 (enc T).length with q | q
        · exact q
        · have := withF_fits T [] (by rw [List.nil_append]; omega)
          rw [this] at hr
          cases hr
      have HF := hide (bf_much (unhide HW) hmuch)
      clear hmuch
      go_wp2
      go_ret2
      rw [unhide HF]
      exact ⟨_, rfl, Own.nil _ _, unhide HB2⟩
    | true =>
      have e1 := withF_yes T [] hr
      rw [List.nil_append] at e1
      have HO2' : Hid (Own w.heap.size w2 v2 (enc T)) := by
        have := unhide HO2
        rw [e1] at this
        exact hide this
      clear HO2 e1
      obtain ⟨g2, cap2, hv2, _, _, _, _, hbc⟩ := (unhide HO2').shape (enc_ne T)
      subst hv2
      by_cases hmuch : 99996 < (enc T).length
      · have HF := hide (bf_much (unhide HW) hmuch)
        have hm' : (99996 : Int) < ((enc T).length : Int) := by omega
        go_wp2
        go_ret2
        rw [unhide HF]
        exact ⟨_, rfl, Own.nil _ _, unhide HB2⟩
      · have HF := hide (bf_ok (unhide HW) hmuch)
        have hm' : ¬ (99996 : Int) < ((enc T).length : Int) := by omega
        have C3 := hide (sum_any (enc T) g2 0 cap2 w2 (by omega) hbc)
        have C4 := hide (withSum_any w.heap.size w2 _ (enc T) (sumB (enc T)).toNat (unhide HO2') hs2 (by omega) (by have := (sumB (enc T)).isLt; omega))
        clear hbc
        go_wp2_with fail
        refine (unhide C3).mono ?_
        rintro e wx ⟨rfl, rfl⟩
        go_wp2_with fail
        refine (unhide C4).mono ?_
        rintro e w3 ⟨v3, rfl, hO3, hG3⟩
        have HB3 := hide ((unhide HB2).trans (hG3.old (unhide HO2') hs2))
        have HO3 := hide hO3
        clear hO3 hG3 C3 C4 HO2'
        go_wp2
        go_ret2
        rw [unhide HF]
        exact ⟨_, rfl, unhide HO3, unhide HB3⟩
  · have HF := hide (bf_wrong hw)
    have hw' : (wrongF T == 0) = false := by simpa using hw
    go_wp2
    go_ret2
    rw [unhide HF]
    exact ⟨_, rfl, Own.nil _ _, unhide HB1⟩
end Go.Proofs.Ytlienildfnlncaa
