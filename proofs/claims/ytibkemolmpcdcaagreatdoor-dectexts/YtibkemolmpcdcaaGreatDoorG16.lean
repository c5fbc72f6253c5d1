/- The walk over DecTexts. -/
import Derived.Test.YtibkemolmpcdcaaGreatDoorG15
namespace Go.Proofs.YtibkemolmpcdcaaGreatDoor
open Go.RowKit

set_option maxRecDepth 100000 in
set_option maxHeartbeats 2000000 in
theorem texts_walk (s : ByteArray) (c x : Int) (w : World) (hs : s.size ≤ 9223372036854775807) (htab : Lib.TabIs Tryz.prog w "internal/strconv.uint64pow10" .u64 Lib.pow10Tab) :
    Calls Tryz.prog 3 #[.string s, .agg #[.int .i64 c, .int .i64 x]] w fun e w' => e = .returned (.bool true) ∧ Below w.heap.size w w' := by
  have PS := hide (fun wx => parse_any s wx hs)
  have RS := hide (fun wx => rparse_any s wx)
  generalize parseF s.data.toList = q at *
  obtain ⟨qc, qx, qr⟩ := q
  simp only [pRet] at PS RS
  have TB := hide (Lib.tabBelow_of_tabIs htab)
  obtain ⟨T, u, PN, RN⟩ : ∃ (T : ByteArray) (u : Int), Hid (∀ wx, Below w.heap.size w wx → Calls Tryz.prog 6 #[.agg #[.int .i64 c, .int .i64 x]] wx fun e w' => e = .returned (.tuple #[.string T, .int .i64 u]) ∧ Below wx.heap.size wx w') ∧ Hid (∀ wx, Calls Tryz.prog 7 #[.agg #[.int .i64 c, .int .i64 x]] wx fun e w' => e = .returned (.tuple #[.string T, .int .i64 u]) ∧ Below wx.heap.size wx w') := by
    by_cases h : Dm.wrongN c x = 0
    · exact ⟨_, _, hide (fun wx hw => print_ok c x wx h (unhide TB wx hw)), hide (fun wx => rprint_ok c x wx h)⟩
    · have g : (Dm.wrongN c x != 0) = true := by rw [bne_iff_ne]; exact h
      exact ⟨_, _, hide (fun wx _ => print_no c x wx g), hide (fun wx => rprint_no c x wx g)⟩
  clear htab hs TB
  obtain ⟨wB, hwB⟩ : ∃ wB, wB = w.alloc (.cells #[.int .i64 c, .int .i64 x] 23) := ⟨_, rfl⟩
  have B0 : Below w.heap.size w wB := by rw [hwB]; exact below_new _ _
  have a0 : C2 wB w.heap.size c x := by rw [hwB]; exact C2.new w c x
  go_enter Tryz.func3, Tryz.ntmps3
  go_wp2_with fail
  refine (unhide PS _).mono ?_
  rw [← hwB]
  rintro e w1 ⟨rfl, hb⟩
  have N1 := below_new w1 (.cells #[.int .i64 qc, .int .i64 qx] 23)
  have B1 := below_step (below_step B0 hb) N1
  have a1 := (a0.below hb).below N1
  have x1 := C2.new w1 qc qx
  clear hb N1 a0 B0 hwB PS
  go_wp2_with fail
  refine (unhide RS _).mono ?_
  rintro e w2 ⟨rfl, hb⟩
  have N2 := below_new w2 (.cells #[.int .i64 qc, .int .i64 qx] 23)
  have B2 := below_step (below_step B1 hb) N2
  have a2 := (a1.below hb).below N2
  have ax := a1.below hb
  have xx := x1.below hb
  obtain ⟨xl, xc0, xc1, xf0, xf1⟩ := id xx
  obtain ⟨al, ac0, ac1, af0, af1⟩ := id ax
  have PN2 := hide (unhide PN _ B2)
  clear hb N2 a1 x1 B1 RS ax xx
  go_wp2_with fail
  refine (unhide PN2).mono ?_
  rintro e w3 ⟨rfl, hb⟩
  have B3 := below_step B2 hb
  have a3 := a2.below hb
  clear xl xc0 xc1 xf0 xf1 al ac0 ac1 af0 af1
  obtain ⟨al, ac0, ac1, af0, af1⟩ := id a3
  clear hb a2 B2 PN2 PN
  go_wp2_with fail
  refine (unhide RN _).mono ?_
  rintro e w4 ⟨rfl, hb⟩
  have B4 := below_step B3 hb
  clear hb a3 B3 RN
  go_wp2
  go_ret
  exact ⟨by simp, B4⟩
end Go.Proofs.YtibkemolmpcdcaaGreatDoor
