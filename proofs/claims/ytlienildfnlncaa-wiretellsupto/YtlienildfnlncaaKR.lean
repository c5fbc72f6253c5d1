/- The law WireTurns' walk. -/
import Derived.Test.YtlienildfnlncaaKQ
namespace Go.Proofs.Ytlienildfnlncaa
open Go.RowKit

theorem MemWP.mem {P : Nat → Prop} {w : World} {T : WT} {v : Array Value} (h : MemWP P w T v) (hP : ∀ b, P b → b < w.heap.size) : MemW w.heap.size w T v := h.keep fun b hb => ⟨hP b hb, fun _ => rfl⟩
theorem MemW.grow {w w' : World} {T : WT} {v : Array Value} (h : MemW w.heap.size w T v) (hb : Below w.heap.size w w') : MemW w'.heap.size w' T v := (h.below hb).mono hb.size

set_option maxHeartbeats 4000000 in
theorem turns_walk (T : WT) (tv : Array Value) (bv : Value) (l : List UInt8) (w : World) (hM : MemW w.heap.size w T tv) (hV : BV w bv l) :
    Calls Try.prog 4 #[.agg tv, bv] w fun e w' => e = .returned (.bool true) ∧ Below w.heap.size w w' := by
  have HM := hide hM
  have HV := hide hV
  have hM0 := hM
  obtain ⟨g, n, t, ks, rfl⟩ : ∃ g n t ks, T = .mk g n t ks := by cases T; exact ⟨_, _, _, _, rfl⟩
  rw [MemW, MemWP] at hM0
  obtain ⟨hn, ht, hk, a, cap, rfl, _⟩ := hM0
  obtain ⟨T, hT⟩ : ∃ T, T = WT.mk g n t ks := ⟨_, rfl⟩
  rw [← hT] at HM
  have hfit : fitW T := MemWP.fit (unhide HM)
  have HFit := hide hfit
  obtain ⟨W0, hW0⟩ : ∃ W0, W0 = w.alloc (.cells #[.int .i64 g, .int .i64 n, .string t, .slice a ks.length cap] 24) := ⟨_, rfl⟩
  have B0 : Below w.heap.size w W0 := by rw [hW0]; exact below_new _ _
  have X0 : Bx W0 w.heap.size (.int .i64 g) (.int .i64 n) (.string t) (.slice a ks.length cap) := by rw [hW0]; exact Bx.new _ _ _ _ _ _
  have HB0 := hide B0
  have HX0 := hide X0
  have C0 := hide (alive_any W0)
  obtain ⟨ba, bcap, hbv, _⟩ := hV
  subst hbv
  clear B0 X0 hM hT hfit
  go_enter Try.func4, Try.ntmps4
  go_wp2_with fail
  rw [← hW0]
  clear hW0
  refine (unhide C0).mono ?_
  rintro e w1 ⟨rfl, hb1⟩
  have HB1 := hide (below_via (unhide HB0) hb1)
  have HX1 := hide ((unhide HX0).keep hb1)
  obtain ⟨x0, x1, x2, x3⟩ := (unhide HX1).tell
  have C1 := hide (bytes_any T _ w1 ((unhide HM).grow (unhide HB1)))
  clear C0 HB0 HX0 hb1
  go_wp2_with fail
  refine (unhide C1).mono ?_
  rintro e w2 ⟨v2, rfl, hO2, hb2⟩
  have HB2 := hide (below_via (unhide HB1) hb2)
  have HX2 := hide ((unhide HX1).keep hb2)
  have HO2 := hide hO2
  clear C1 HB1 HX1 hb2 hO2 x0 x1 x2 x3
  have second : ∀ (wx : World), Below w.heap.size w wx → Calls Try.prog 13 #[.slice ba l.length bcap] wx (PostP wx (parseF l)) := fun wx hx => parse_any wx _ l ((unhide HV).keep hx)
  have S2 := hide second
  clear second
  by_cases hok : (bytesF T).1 = 0
  · have hpair : bytesF T = (0, (bytesF T).2) := by rw [← hok]
    have hp := parse_bytes (unhide HFit) hpair
    have C2 := hide (parse_any w2 v2 _ (unhide HO2).bv)
    rw [hp] at C2
    rw [hok]
    clear hok hpair hp HO2
    go_wp2_with fail
    refine (unhide C2).mono ?_
    rintro e w3 ⟨cs, rfl, hM3, hb3⟩
    have HB3 := hide (below_via (unhide HB2) hb3)
    have HX3 := hide ((unhide HX2).keep hb3)
    have hMM : MemW w3.heap.size w3 T cs := hM3.mem (fun b hb => hb.2)
    obtain ⟨eg, en, et, ea, el, ec, rfl⟩ := hM3.four
    have bA := below_new w3 (.cells #[.int .i64 eg, .int .i64 en, .string et, .slice ea el ec] 24)
    obtain ⟨x0, x1, x2, x3⟩ := (unhide HX3).tell
    have lx := (unhide HX3).low
    have C3 := hide (same_all T _ _ _ (((unhide HM).grow (below_via (unhide HB3) bA))) (hMM.grow bA))
    have HB4 := hide (below_via (unhide HB3) bA)
    clear C2 HB2 HX2 hM3 hb3 hMM bA HB3
    go_wp2_with fail
    refine (unhide C3).mono ?_
    rintro e w4 ⟨rfl, hb4⟩
    have HB5 := hide (below_via (unhide HB4) hb4)
    clear C3 HB4 hb4 x0 x1 x2 x3 lx HX3
    have C4 := hide (unhide S2 w4 (unhide HB5))
    go_wp2_with fail
    refine (unhide C4).mono ?_
    rintro e w5 ⟨cs5, rfl, hM5, hb5⟩
    obtain ⟨r, hr⟩ : ∃ r, parseF l = r := ⟨_, rfl⟩
    rw [hr] at hM5 ⊢
    have HB6 := hide (below_via (unhide HB5) hb5)
    have hMM : MemW w5.heap.size w5 r.2 cs5 := hM5.mem (fun b hb => hb.2)
    obtain ⟨fg, fn, ft, fa, fl, fc, rfl⟩ := hM5.four
    have bA5 := below_new w5 (.cells #[.int .i64 fg, .int .i64 fn, .string ft, .slice fa fl fc] 24)
    by_cases h0 : r.1 = 0
    · have hpair : parseF l = (0, r.2) := by rw [hr, ← h0]
      have hby := bytes_parse hpair
      have C5 := hide (bytes_any r.2 _ _ (hMM.grow bA5))
      rw [hby] at C5
      have HB7 := hide (below_via (unhide HB6) bA5)
      rw [h0]
      clear hpair hby hr h0 C4 hM5 hb5 hMM bA5 HB6
      go_wp2_with fail
      refine (unhide C5).mono ?_
      rintro e w6 ⟨v6, rfl, hO6, hb6⟩
      have HB8 := hide (below_via (unhide HB7) hb6)
      have C6 := hide (sameB_any w6 l v6 (.slice ba l.length bcap) hO6.bv ((unhide HV).keep (unhide HB8)))
      clear C5 hO6 hb6 HB7
      go_wp2_with fail
      refine (unhide C6).mono ?_
      rintro e w7 ⟨rfl, hb7⟩
      have HB9 := hide (below_via (unhide HB8) hb7)
      clear C6 HB8 hb7
      go_wp2
      go_ret
      exact ⟨rfl, unhide HB9⟩
    · have h0' : (r.1 == 0) = false := by simpa using h0
      have HB7 := hide (below_via (unhide HB6) bA5)
      clear hr h0 C4 hM5 hb5 hMM bA5 HB6
      go_wp2
      go_ret
      exact ⟨rfl, unhide HB7⟩
  · have hok' : ((bytesF T).1 == 0) = false := by simpa using hok
    have HB5 := HB2
    have C4 := hide (unhide S2 w2 (unhide HB5))
    clear HB2 HX2 HO2 hok
    go_wp2_with fail
    refine (unhide C4).mono ?_
    rintro e w5 ⟨cs5, rfl, hM5, hb5⟩
    obtain ⟨r, hr⟩ : ∃ r, parseF l = r := ⟨_, rfl⟩
    rw [hr] at hM5 ⊢
    have HB6 := hide (below_via (unhide HB5) hb5)
    have hMM : MemW w5.heap.size w5 r.2 cs5 := hM5.mem (fun b hb => hb.2)
    obtain ⟨fg, fn, ft, fa, fl, fc, rfl⟩ := hM5.four
    have bA5 := below_new w5 (.cells #[.int .i64 fg, .int .i64 fn, .string ft, .slice fa fl fc] 24)
    by_cases h0 : r.1 = 0
    · have hpair : parseF l = (0, r.2) := by rw [hr, ← h0]
      have hby := bytes_parse hpair
      have C5 := hide (bytes_any r.2 _ _ (hMM.grow bA5))
      rw [hby] at C5
      have HB7 := hide (below_via (unhide HB6) bA5)
      rw [h0]
      clear hpair hby hr h0 C4 hM5 hb5 hMM bA5 HB6
      go_wp2_with fail
      refine (unhide C5).mono ?_
      rintro e w6 ⟨v6, rfl, hO6, hb6⟩
      have HB8 := hide (below_via (unhide HB7) hb6)
      have C6 := hide (sameB_any w6 l v6 (.slice ba l.length bcap) hO6.bv ((unhide HV).keep (unhide HB8)))
      clear C5 hO6 hb6 HB7
      go_wp2_with fail
      refine (unhide C6).mono ?_
      rintro e w7 ⟨rfl, hb7⟩
      have HB9 := hide (below_via (unhide HB8) hb7)
      clear C6 HB8 hb7
      go_wp2
      go_ret
      exact ⟨rfl, unhide HB9⟩
    · have h0' : (r.1 == 0) = false := by simpa using h0
      have HB7 := hide (below_via (unhide HB6) bA5)
      clear hr h0 C4 hM5 hb5 hMM bA5 HB6
      go_wp2
      go_ret
      exact ⟨rfl, unhide HB7⟩
end Go.Proofs.Ytlienildfnlncaa
