/- Walks: the document's Bytes. -/
import Derived.Test.YtlienildfnlncaaKY
namespace Go.Proofs.Ytlienildfnlncaa
open Go.RowKit

set_option maxHeartbeats 4000000 in
theorem rbytes_any (T : WT) (tv : Array Value) (w : World) (hM : MemW w.heap.size w T tv) (hsz : (enc T).length ≤ 1000000000) : Calls Try.prog 11 #[.agg tv] w (PostB w (bytesF T)) := by
  have HM := hide hM
  have HFit := hide (MemWP.fit hM)
  have hM0 := hM
  clear hM
  obtain ⟨g, n, t, ks, rfl⟩ : ∃ g n t ks, T = .mk g n t ks := by cases T; exact ⟨_, _, _, _, rfl⟩
  rw [MemW, MemWP] at hM0
  obtain ⟨hn, ht, hk, a, cap, rfl, _⟩ := hM0
  obtain ⟨T, hT⟩ : ∃ T, T = WT.mk g n t ks := ⟨_, rfl⟩
  rw [← hT] at HM HFit hsz ⊢
  clear hT
  obtain ⟨W0, hW0⟩ : ∃ W0, W0 = w.alloc (.cells #[.int .i64 g, .int .i64 n, .string t, .slice a ks.length cap] 24) := ⟨_, rfl⟩
  have B0 : Below w.heap.size w W0 := by rw [hW0]; exact below_new _ _
  have X0 : Bx W0 w.heap.size (.int .i64 g) (.int .i64 n) (.string t) (.slice a ks.length cap) := by rw [hW0]; exact Bx.new _ _ _ _ _ _
  have C1 := hide (rwrong_any T _ W0 ((unhide HM).grow B0))
  have HB0 := hide B0
  have HX0 := hide X0
  clear B0 X0
  go_enter Try.func11, Try.ntmps11
  go_wp2_with fail
  rw [← hW0]
  clear hW0
  refine (unhide C1).mono ?_
  rintro e w1 ⟨rfl, hb1⟩
  have HB1 := hide (below_via (unhide HB0) hb1)
  have HX1 := hide ((unhide HX0).keep hb1)
  obtain ⟨x0, x1, x2, x3⟩ := (unhide HX1).tell
  have lx := (unhide HX1).low
  clear C1 HB0 HX0 hb1
  by_cases hw : wrongF T = 0
  · have hok := wrongW_ok T 1 0 (unhide HFit) hw
    have C2 := hide (put_all T w1 _ 1 ((unhide HM).grow (unhide HB1)) hok.1 (by omega))
    have HW := hide hw
    obtain ⟨i0, hi, hz0, hz1, hz2⟩ := info_parts info_u8
    have I0 := hide hi
    have I1 := hide hz0
    have I2 := hide hz1
    have I3 := hide hz2
    clear hok hi hz0 hz1 hz2
    go_wp2_with fail
    with_reducible refine (unhide C2).mono ?_
    rintro e w2 ⟨v2, rfl, hO2, hb2⟩
    obtain ⟨g2, cap2, hv2, _, _, _, lg2, hbc2⟩ := hO2.shape (enc_ne T)
    subst hv2
    have C3 := hide (rsum_any (enc T) g2 0 cap2 w2 (by omega) hbc2)
    have C4 := hide (rfour_any (sumB (enc T)).toNat w2 (sumB (enc T)).isLt)
    have HO2 := hide (hO2.mono (unhide HB1).size)
    have HB2 := hide (below_via (unhide HB1) hb2)
    clear C2 hO2 hb2 hbc2 x0 x1 x2 x3 lx HX1 HB1 hw
    go_wp2_with fail
    with_reducible refine (unhide C3).mono ?_
    rintro e wx ⟨rfl, hwx⟩
    replace hwx := hwx.symm
    subst hwx
    go_wp2_with fail
    with_reducible refine (unhide C4).mono ?_
    rintro e w3 ⟨v3, rfl, hO3, hb3⟩
    obtain ⟨g3, cap3, hv3, _, _, _, lg3, hbc3⟩ := hO3.shape (by simp [four])
    rw [four_len] at hv3
    subst hv3
    have HO3 := hide ((unhide HO2).below hb3)
    have HB3 := hide (below_via (unhide HB2) hb3)
    have HN3 := hide (bc_news hbc3)
    have m1 : Hid ((enc T).length + 4 ≤ maxLen) := hide (by unfold maxLen; omega)
    have m2 : Hid (((enc T).length + 4) * 1 ≤ 140737488355328) := hide (by omega)
    have m4 : Hid ((bcs (four (sumB (enc T)).toNat)).length = 4 * 1) := hide (by rw [bcs_len, four_len])
    have hs3 := (unhide HB3).size
    clear C3 C4 hO3 hb3 hbc3 HO2 HB2
    go_wp2_with (at_builtin; refine wpList_append_own_at _ rfl _ _ 25 rfl w.heap.size 5 i0 (.int .u8 0) 1 1 Try.underlying25 (unhide I0) (unhide I1) (unhide I2) (unhide I3) rfl (by decide) _ (enc T).length (bcs (enc T)) rfl (unhide HO3) ⟨g3, 0, none⟩ 4 cap3 (bcs (four (sumB (enc T)).toNat)) rfl (unhide m4) (unhide HN3) (bcs_one _) (unhide m1) (unhide m2) hs3 ?_)
    intro v4 w4 own4 hgrow4 _ _
    have HO4 : Hid (Own w.heap.size w4 v4 (enc T ++ four (sumB (enc T)).toNat)) := hide (own_app rfl (four_len _) own4)
    have HB4 := hide ((unhide HB3).grown hgrow4 hs3 (fun k hk => (World.ownsRow.lt (unhide HO3) k hk).1))
    clear own4 hgrow4 HO3 HB3 HN3 m1 m2 m4 hs3
    obtain ⟨g4, cap4, hv4, _, _, _, _, _⟩ := (unhide HO4).shape (by simp [enc_ne T])
    have hl4 : (enc T ++ four (sumB (enc T)).toNat).length = (enc T).length + 4 := by rw [List.length_append, four_len]
    rw [hl4] at hv4
    subst hv4
    by_cases hmuch : 99996 < (enc T).length
    · have HF := hide (bf_much (unhide HW) hmuch)
      have hm' : (100000 : Int) < ((enc T).length : Int) + 4 := by omega
      clear hl4
      go_wp2
      go_ret2
      rw [unhide HF]
      exact ⟨_, rfl, Own.nil _ _, unhide HB4⟩
    · have HF := hide (bf_ok (unhide HW) hmuch)
      have hm' : ¬ (100000 : Int) < ((enc T).length : Int) + 4 := by omega
      clear hl4
      go_wp2
      go_ret2
      rw [unhide HF]
      exact ⟨_, rfl, unhide HO4, unhide HB4⟩
  · have HF := hide (bf_wrong hw)
    have hw' : (wrongF T == 0) = false := by simpa using hw
    go_wp2
    go_ret2
    rw [unhide HF]
    exact ⟨_, rfl, Own.nil _ _, unhide HB1⟩
end Go.Proofs.Ytlienildfnlncaa
