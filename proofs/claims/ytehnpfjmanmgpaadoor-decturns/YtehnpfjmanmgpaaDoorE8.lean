/- The walk over DecTurns. -/
import Derived.Test.YtehnpfjmanmgpaaDoorE7
import Derived.Test.YtehnpfjmanmgpaaDoorW14
namespace Go.Proofs.YtehnpfjmanmgpaaDoor
open Go.RowKit

theorem keepd {w w0 wa wb : World} {c x : Int} (hb : Below wa.heap.size wa wb) (k : wa.cell? ⟨w0.heap.size, 0, none⟩ = some (.int .i64 c) ∧ wa.cell? ⟨w0.heap.size, 1, none⟩ = some (.int .i64 x) ∧ w0.heap.size + 1 ≤ wa.heap.size ∧ Below w.heap.size w wa) (hw : w.heap.size ≤ w0.heap.size) :
    wb.cell? ⟨w0.heap.size, 0, none⟩ = some (.int .i64 c) ∧ wb.cell? ⟨w0.heap.size, 1, none⟩ = some (.int .i64 x) ∧ w0.heap.size + 1 ≤ wb.heap.size ∧ Below w.heap.size w wb :=
  ⟨(hb.cell (p := ⟨w0.heap.size, 0, none⟩) (by show w0.heap.size < _; omega)).trans k.1, (hb.cell (p := ⟨w0.heap.size, 1, none⟩) (by show w0.heap.size < _; omega)).trans k.2.1, by have := hb.size; omega, k.2.2.2.trans (hb.mono (by omega))⟩


set_option maxHeartbeats 1000000 in
theorem turns_walk (c x : Int) (s : ByteArray) (w : World) (hs : s.size ≤ 9223372036854775807) (htab : Lib.TabIs Tryd.prog w "internal/strconv.uint64pow10" .u64 Lib.pow10Tab) :
    Calls Tryd.prog 3 #[.agg #[.int .i64 c, .int .i64 x], .string s] w fun e w' => e = .returned (.bool true) ∧ Below w.heap.size w w' := by
  have PS := hide (fun wx => parse_any s wx hs)
  have PR := hide (parse_right s.data.toList)
  generalize parseF s.data.toList = q at *
  obtain ⟨qc, qx, qr⟩ := q
  simp only [pRet] at PS PR
  have TB := hide (Lib.tabBelow_of_tabIs htab)
  clear htab hs
  by_cases h : Dm.wrongN c x = 0
  · have PN := hide (fun wx (hw : Below w.heap.size w wx) => print_ok c x wx h (unhide TB wx hw))
    obtain ⟨T, hT⟩ : ∃ T : ByteArray, T = ⟨(printL c x).toArray⟩ := ⟨_, rfl⟩
    have PT := hide (fun wx => parse_any T wx (by
      rw [hT, mk_size]
      have : (printL c x).length ≤ 100 := by
        rcases Nat.lt_or_ge 100 (printL c x).length with g | g
        · have e := parse_print h
          unfold parseF at e
          rw [if_pos g] at e
          simp at e
        · exact g
      omega))
    rw [show T.data.toList = printL c x by rw [hT], parse_print h] at PT
    simp only [pRet] at PT
    rw [← hT] at PN
    clear hT h TB
    by_cases hr : qr = 0
    · have W := hide (unhide PR hr)
      subst hr
      go_enter Tryd.func3, Tryd.ntmps3
      go_wp2_with fail
      refine (alive_any _).mono ?_
      rintro e w1 ⟨rfl, hb⟩
      have K1 := hide (two_cells hb)
      clear hb
      obtain ⟨t0, t1, hz1, hw⟩ := unhide K1
      go_wp2_with fail
      refine (unhide PN _ hw).mono ?_
      rintro e w2 ⟨rfl, hb⟩
      replace K1 := hide (keep2 hb (unhide K1))
      clear hb t0 t1 hz1 hw
      obtain ⟨t0, t1, hz1, hw⟩ := unhide K1
      go_wp2_with fail
      refine (unhide PT _).mono ?_
      rintro e w3 ⟨rfl, hb⟩
      replace K1 := hide (keep2 hb (unhide K1))
      clear hb t0 t1 hz1 hw
      obtain ⟨t0, t1, hz1, hw⟩ := unhide K1
      have lt3 : w.heap.size < w3.heap.size := by omega
      have K2 := hide (hw.alloc (by omega) (.cells #[.int .i64 c, .int .i64 x] 23))
      go_wp2_with fail
      refine (unhide PS _).mono ?_
      rintro e w4 ⟨rfl, hb⟩
      have hw4 := (unhide K2).trans (hb.mono (by simp; omega))
      clear hb
      go_wp2_with fail
      refine (wrong_any qc qx _).mono ?_
      rintro e w5 ⟨rfl, hb⟩
      rw [unhide W]
      have hw5 := (hw4.alloc hw4.size _).trans (hb.mono (Nat.le_trans hw4.size (by simp)))
      clear hb
      go_wp2
      go_ret
      exact ⟨rfl, hw5⟩
    · have hr' : (qr != 0) = true := by simpa using hr
      clear hr
      go_enter Tryd.func3, Tryd.ntmps3
      go_wp2_with fail
      refine (alive_any _).mono ?_
      rintro e w1 ⟨rfl, hb⟩
      have K1 := hide (two_cells hb)
      clear hb
      obtain ⟨t0, t1, hz1, hw⟩ := unhide K1
      go_wp2_with fail
      refine (unhide PN _ hw).mono ?_
      rintro e w2 ⟨rfl, hb⟩
      replace K1 := hide (keep2 hb (unhide K1))
      clear hb t0 t1 hz1 hw
      obtain ⟨t0, t1, hz1, hw⟩ := unhide K1
      go_wp2_with fail
      refine (unhide PT _).mono ?_
      rintro e w3 ⟨rfl, hb⟩
      replace K1 := hide (keep2 hb (unhide K1))
      clear hb t0 t1 hz1 hw
      obtain ⟨t0, t1, hz1, hw⟩ := unhide K1
      have lt3 : w.heap.size < w3.heap.size := by omega
      have K2 := hide (hw.alloc (by omega) (.cells #[.int .i64 c, .int .i64 x] 23))
      go_wp2_with fail
      refine (unhide PS _).mono ?_
      rintro e w4 ⟨rfl, hb⟩
      have hw4 := (unhide K2).trans (hb.mono (by simp; omega))
      clear hb
      go_wp2
      go_ret
      exact ⟨rfl, hw4.alloc hw4.size _⟩
  · have h' : (Dm.wrongN c x != 0) = true := by simpa using h
    have PN := hide (fun wx => print_no c x wx h')
    have hz0 : (Dm.wrongN c x == 0) = false := by simpa using h
    have hne : ¬ Dm.wrongN c x = 0 := h
    clear h TB h'
    by_cases hr : qr = 0
    · have W := hide (unhide PR hr)
      subst hr
      go_enter Tryd.func3, Tryd.ntmps3
      go_wp2_with fail
      refine (alive_any _).mono ?_
      rintro e w1 ⟨rfl, hb⟩
      have K1 := hide (two_cells hb)
      clear hb
      obtain ⟨t0, t1, hz1, hw⟩ := unhide K1
      go_wp2_with fail
      refine (unhide PN _).mono ?_
      rintro e w2 ⟨rfl, hb⟩
      replace K1 := hide (keep2 hb (unhide K1))
      clear hb t0 t1 hz1 hw
      obtain ⟨t0, t1, hz1, hw⟩ := unhide K1
      go_wp2_with fail
      refine (unhide PS _).mono ?_
      rintro e w4 ⟨rfl, hb⟩
      have hw4 := hw.trans (hb.mono (by omega))
      clear hb
      go_wp2_with fail
      refine (wrong_any qc qx _).mono ?_
      rintro e w5 ⟨rfl, hb⟩
      rw [unhide W]
      have hw5 := (hw4.alloc hw4.size _).trans (hb.mono (Nat.le_trans hw4.size (by simp)))
      clear hb
      go_wp2
      go_ret
      exact ⟨rfl, hw5⟩
    · have hr' : (qr != 0) = true := by simpa using hr
      clear hr
      go_enter Tryd.func3, Tryd.ntmps3
      go_wp2_with fail
      refine (alive_any _).mono ?_
      rintro e w1 ⟨rfl, hb⟩
      have K1 := hide (two_cells hb)
      clear hb
      obtain ⟨t0, t1, hz1, hw⟩ := unhide K1
      go_wp2_with fail
      refine (unhide PN _).mono ?_
      rintro e w2 ⟨rfl, hb⟩
      replace K1 := hide (keep2 hb (unhide K1))
      clear hb t0 t1 hz1 hw
      obtain ⟨t0, t1, hz1, hw⟩ := unhide K1
      go_wp2_with fail
      refine (unhide PS _).mono ?_
      rintro e w4 ⟨rfl, hb⟩
      have hw4 := hw.trans (hb.mono (by omega))
      clear hb
      go_wp2
      go_ret
      exact ⟨rfl, hw4.alloc hw4.size _⟩
end Go.Proofs.YtehnpfjmanmgpaaDoor
