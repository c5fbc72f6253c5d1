/- The law WireTells' walk. -/
import Derived.Test.YtlienildfnlncaaQE
import Derived.Deep.RegionWith
namespace Go.Proofs.Ytlienildfnlncaa
open Go.RowKit

set_option maxHeartbeats 4000000 in
theorem tells_walk (T : WT) (tv : Array Value) (bv : Value) (l : List UInt8) (w : World) (hM : MemW w.heap.size w T tv) (hV : BV w bv l) (hsz : (enc T).length ≤ 1000000000) :
    Calls Try.prog 3 #[.agg tv, bv] w fun e w' => e = .returned (.bool true) ∧ Below w.heap.size w w' := by
  have HM := hide hM
  have HV := hide hV
  have hM0 := hM
  obtain ⟨g, n, t, ks, rfl⟩ : ∃ g n t ks, T = .mk g n t ks := by cases T; exact ⟨_, _, _, _, rfl⟩
  rw [MemW, MemWP] at hM0
  obtain ⟨hn, ht, hk, a, cap, rfl, _⟩ := hM0
  obtain ⟨T, hT⟩ : ∃ T, T = WT.mk g n t ks := ⟨_, rfl⟩
  rw [← hT] at HM hsz
  obtain ⟨W0, hW0⟩ : ∃ W0, W0 = w.alloc (.cells #[.int .i64 g, .int .i64 n, .string t, .slice a ks.length cap] 24) := ⟨_, rfl⟩
  have B0 : Below w.heap.size w W0 := by rw [hW0]; exact below_new _ _
  have X0 : Bx W0 w.heap.size (.int .i64 g) (.int .i64 n) (.string t) (.slice a ks.length cap) := by rw [hW0]; exact Bx.new _ _ _ _ _ _
  have HB0 := hide B0
  have HX0 := hide X0
  obtain ⟨ba, bcap, hbv, hb1, hb2, _⟩ := hV
  subst hbv
  have hll : l.length ≤ 9223372036854775807 := by omega
  have CA := hide (fun wx (hx : Below W0.heap.size W0 wx) => wrong_any T _ wx ((unhide HM).grow (below_via (unhide HB0) hx)))
  have CC := hide (fun wx (hx : Below W0.heap.size W0 wx) => rwrong_any T _ wx ((unhide HM).grow (below_via (unhide HB0) hx)))
  have VA : ∀ wx, Below W0.heap.size W0 wx → (l ≠ [] → ∃ b off, ba = some ⟨b, off, none⟩ ∧ b < wx.heap.size ∧ BC wx b off l) := fun wx hx hne => by
    obtain ⟨a', c', e1, _, _, e4⟩ := (unhide HV).keep (below_via (unhide HB0) hx)
    obtain ⟨b, off, e5, e6, e7⟩ := e4 hne
    simp at e1
    exact ⟨b, off, e1.1.trans e5, e6, e7⟩
  have CS := hide (fun wx (hx : Below W0.heap.size W0 wx) => sumV_any l ba bcap wx hll (VA wx hx))
  have CR := hide (fun wx (hx : Below W0.heap.size W0 wx) => rsumV_any l ba bcap wx hll (VA wx hx))
  have CBy := hide (fun wx (hx : Below W0.heap.size W0 wx) => bytes_any T _ wx ((unhide HM).grow (below_via (unhide HB0) hx)))
  have CRb := hide (fun wx (hx : Below W0.heap.size W0 wx) => rbytes_any T _ wx ((unhide HM).grow (below_via (unhide HB0) hx)) hsz)
  have CP := hide (fun wx (hx : Below W0.heap.size W0 wx) => parse_any wx _ l ((unhide HV).keep (below_via (unhide HB0) hx)))
  have CQ := hide (fun wx (hx : Below W0.heap.size W0 wx) => rparse_any wx _ l ((unhide HV).keep (below_via (unhide HB0) hx)))
  obtain ⟨x0, x1, x2, x3⟩ := X0.tell
  have lx := X0.low
  clear B0 X0 hM hT VA
  go_enter Try.func3, Try.ntmps3
  go_wp2_with fail
  rw [← hW0]
  clear hW0
  go_region_with (first
    | (go_at_call 6
       (refine (unhide CA _ ?_).mono ?_; · exact (by repeat (first | assumption | exact Below.refl _ _ | apply Below.drew)))
       rintro e w2 ⟨rfl, hbA⟩
       replace hbA : Below W0.heap.size W0 w2 := below_via (by repeat (first | assumption | exact Below.refl _ _ | apply Below.drew)) hbA
       obtain ⟨k0, k1, k2, k3⟩ := ((unhide HX0).keep hbA).tell)
    | (go_at_call 7
       (refine (unhide CC _ ?_).mono ?_; · exact (by repeat (first | assumption | exact Below.refl _ _ | apply Below.drew)))
       rintro e w3 ⟨rfl, hbB⟩
       replace hbB : Below W0.heap.size W0 w3 := below_via (by repeat (first | assumption | exact Below.refl _ _ | apply Below.drew)) hbB)
    | (go_at_call 8
       (refine (unhide CS _ ?_).mono ?_; · exact (by repeat (first | assumption | exact Below.refl _ _ | apply Below.drew)))
       rintro e w4 ⟨rfl, hw4⟩
       subst hw4)
    | (go_at_call 9
       (refine (unhide CR _ ?_).mono ?_; · exact (by repeat (first | assumption | exact Below.refl _ _ | apply Below.drew)))
       rintro e w5 ⟨rfl, hw5⟩
       subst hw5))
  all_goals
    have HBB := hide hbB
    clear hbA k0 k1 k2 k3 CA CC CS CR x0 x1 x2 x3 lx hbB
    obtain ⟨x0, x1, x2, x3⟩ := ((unhide HX0).keep (unhide HBB)).tell
    have lx := ((unhide HX0).keep (unhide HBB)).low
    go_wp2_with fail
    with_reducible refine (unhide CBy _ (unhide HBB)).mono ?_
    rintro e w6 ⟨v6, rfl, hO6, hb6⟩
    have HB6 := hide (below_via (unhide HBB) hb6)
    have HV6 := hide hO6.bv
    clear hO6 hb6 x0 x1 x2 x3 lx HBB CBy
    obtain ⟨x0, x1, x2, x3⟩ := ((unhide HX0).keep (unhide HB6)).tell
    have lx := ((unhide HX0).keep (unhide HB6)).low
    go_wp2_with fail
    with_reducible refine (unhide CRb _ (unhide HB6)).mono ?_
    rintro e w7 ⟨v7, rfl, hO7, hb7⟩
    have HB7 := hide (below_via (unhide HB6) hb7)
    have C8 := hide (sameB_any w7 (bytesF T).2 v6 v7 ((unhide HV6).keep hb7) hO7.bv)
    clear hO7 hb7 x0 x1 x2 x3 lx HB6 CRb HV6
    go_wp2_with fail
    with_reducible refine (unhide C8).mono ?_
    rintro e w8 ⟨rfl, hb8⟩
    have HB8 := hide (below_via (unhide HB7) hb8)
    clear hb8 HB7 C8
    go_wp2_with fail
    with_reducible refine (unhide CP _ (unhide HB8)).mono ?_
    rintro e w9 ⟨cs, rfl, hM9, hb9⟩
    have HB9 := hide (below_via (unhide HB8) hb9)
    have hMM : MemW w9.heap.size w9 (parseF l).2 cs := hM9.mem (fun b hb => hb.2)
    obtain ⟨eg, en, et, ea, el, ec, rfl⟩ := hM9.four
    have bA := below_new w9 (.cells #[.int .i64 eg, .int .i64 en, .string et, .slice ea el ec] 24)
    have XA := Bx.new w9 24 (.int .i64 eg) (.int .i64 en) (.string et) (.slice ea el ec)
    have HXA := hide XA
    have HMA := hide (hMM.grow bA)
    have HBA := hide (below_via (unhide HB9) bA)
    clear hM9 hb9 hMM bA XA HB8 HB9 CP
    go_wp2_with fail
    with_reducible refine (unhide CQ _ (unhide HBA)).mono ?_
    rintro e w10 ⟨cs2, rfl, hM10, hb10⟩
    have hMM2 : MemW w10.heap.size w10 (parseF l).2 cs2 := hM10.mem (fun b hb => hb.2)
    obtain ⟨fg, fn, ft, fa, fl, fc, rfl⟩ := hM10.four
    have bB := below_new w10 (.cells #[.int .i64 fg, .int .i64 fn, .string ft, .slice fa fl fc] 24)
    have HBC := hide (below_via (below_via (unhide HBA) hb10) bB)
    have C11 := hide (same_all (parseF l).2 _ _ _ (((unhide HMA).grow hb10).grow bB) (hMM2.grow bB))
    obtain ⟨y0, y1, y2, y3⟩ := ((unhide HXA).keep hb10).tell
    have ly := ((unhide HXA).keep hb10).low
    clear hM10 hb10 hMM2 bB HXA HMA HBA CQ
    go_wp2_with fail
    with_reducible refine (unhide C11).mono ?_
    rintro e w12 ⟨rfl, hb12⟩
    have HBD := hide (below_via (unhide HB0) (below_via (unhide HBC) hb12))
    clear hb12 C11 HBC y0 y1 y2 y3 ly
    go_wp2
    go_ret
    exact ⟨rfl, unhide HBD⟩
end Go.Proofs.Ytlienildfnlncaa
