/- The walk over DecRing, out of what its callees come to. -/
import Derived.Test.YthgiepppcpjpaaaL2
namespace Go.Proofs.Ythgiepppcpjpaaa
open Go.RowKit

set_option maxRecDepth 100000 in
set_option maxHeartbeats 1000000 in
theorem ring_core (c1 x1 c2 x2 : Int) (w : World) (h1 : Dm.wrongN c1 x1 = 0) (h2 : Dm.wrongN c2 x2 = 0) (s1 s2 s3 m1 m2 m3 z3 o3 n3 d1 d2 d3 : Int)
    (AB : (∀ wx, Calls Try.prog 10 #[.agg #[.int .i64 c1, .int .i64 x1], .agg #[.int .i64 c2, .int .i64 x2]] wx fun e w' => e = .returned (.tuple #[.agg #[.int .i64 s1, .int .i64 s2], .int .i64 s3]) ∧ Below wx.heap.size wx w')) (BA : (∀ wx, Calls Try.prog 10 #[.agg #[.int .i64 c2, .int .i64 x2], .agg #[.int .i64 c1, .int .i64 x1]] wx fun e w' => e = .returned (.tuple #[.agg #[.int .i64 s1, .int .i64 s2], .int .i64 s3]) ∧ Below wx.heap.size wx w'))
    (MAB : (∀ wx, Calls Try.prog 11 #[.agg #[.int .i64 c1, .int .i64 x1], .agg #[.int .i64 c2, .int .i64 x2]] wx fun e w' => e = .returned (.tuple #[.agg #[.int .i64 m1, .int .i64 m2], .int .i64 m3]) ∧ Below wx.heap.size wx w')) (MBA : (∀ wx, Calls Try.prog 11 #[.agg #[.int .i64 c2, .int .i64 x2], .agg #[.int .i64 c1, .int .i64 x1]] wx fun e w' => e = .returned (.tuple #[.agg #[.int .i64 m1, .int .i64 m2], .int .i64 m3]) ∧ Below wx.heap.size wx w'))
    (Z : (∀ wx, Calls Try.prog 10 #[.agg #[.int .i64 c1, .int .i64 x1], .agg #[.int .i64 0, .int .i64 0]] wx fun e w' => e = .returned (.tuple #[.agg #[.int .i64 c1, .int .i64 x1], .int .i64 z3]) ∧ Below wx.heap.size wx w')) (O : (∀ wx, Calls Try.prog 11 #[.agg #[.int .i64 c1, .int .i64 x1], .agg #[.int .i64 1, .int .i64 0]] wx fun e w' => e = .returned (.tuple #[.agg #[.int .i64 c1, .int .i64 x1], .int .i64 o3]) ∧ Below wx.heap.size wx w'))
    (N : (∀ wx, Calls Try.prog 12 #[.agg #[.int .i64 c1, .int .i64 x1], .agg #[.int .i64 c1, .int .i64 x1]] wx fun e w' => e = .returned (.tuple #[.agg #[.int .i64 0, .int .i64 0], .int .i64 n3]) ∧ Below wx.heap.size wx w')) (D : (∀ wx, Calls Try.prog 13 #[.agg #[.int .i64 c1, .int .i64 x1], .agg #[.int .i64 c1, .int .i64 x1]] wx fun e w' => e = .returned (.tuple #[.agg #[.int .i64 d1, .int .i64 d2], .int .i64 d3]) ∧ Below wx.heap.size wx w'))
    (fin : (c1 = 0 ∧ d3 = 10) ∨ (c1 ≠ 0 ∧ d3 = 0 ∧ d1 = 1 ∧ d2 = 0)) :
    Calls Try.prog 4 #[.agg #[.int .i64 c1, .int .i64 x1], .agg #[.int .i64 c2, .int .i64 x2]] w fun e w' => e = .returned (.bool true) ∧ Below w.heap.size w w' := by
  have H1 := hide h1
  have H2 := hide h2
  have AB' := hide AB
  have BA' := hide BA
  have MAB' := hide MAB
  have MBA' := hide MBA
  have Z' := hide Z
  have O' := hide O
  have N' := hide N
  have D' := hide D
  have FIN := hide fin
  clear h1 h2 AB BA MAB MBA Z O N D fin
  go_enter Try.func4, Try.ntmps4
  go_wp2_with fail
  refine (alive_any _).mono ?_
  rintro e wa ⟨rfl, hba⟩
  obtain ⟨Aa, Ab, Al⟩ := carry2 (nb := w.heap.size) hba (by simp; omega) (by simp [go_sem]; rfl) (by simp [go_sem]; rfl)
  obtain ⟨Ba, Bb, Bl⟩ := carry2 (nb := w.heap.size + 1) hba (by simp) (by simp [go_sem]; rfl) (by simp [go_sem]; rfl)
  have hwa : Below w.heap.size w wa := (((Below.refl w.heap.size w).alloc (Nat.le_refl _) _).alloc (by simp) _).trans (hba.mono (by simp; omega))
  clear hba
  go_wp2_with fail
  refine (wrong_is c1 x1 _ (unhide H1)).mono ?_
  rintro e wb ⟨rfl, hbb⟩
  have hwb := hwa.trans (hbb.mono hwa.size)
  obtain ⟨Aa, Ab, Al⟩ := carry2 hbb Al Aa Ab
  obtain ⟨Ba, Bb, Bl⟩ := carry2 hbb Bl Ba Bb
  clear hbb hwa
  go_wp2_with fail
  refine (wrong_is c2 x2 _ (unhide H2)).mono ?_
  rintro e wc ⟨rfl, hbc⟩
  have hw0 := hwb.trans (hbc.mono hwb.size)
  obtain ⟨Aa, Ab, Al⟩ := carry2 hbc Al Aa Ab
  obtain ⟨Ba, Bb, Bl⟩ := carry2 hbc Bl Ba Bb
  clear hbc hwb
  go_wp2_with fail
  refine (unhide AB' _).mono ?_
  rintro e w1 ⟨rfl, hb1⟩
  obtain ⟨Aa, Ab, Al⟩ := carry2 hb1 Al Aa Ab
  obtain ⟨Ba, Bb, Bl⟩ := carry2 hb1 Bl Ba Bb
  have hw1 := hw0.trans (hb1.mono hw0.size)
  clear hb1
  have hx1 := (Below.refl w1.heap.size w1).alloc (Nat.le_refl _) (.cells #[.int .i64 s1, .int .i64 s2] 23)
  have hy1 := hw1.alloc hw1.size (.cells #[.int .i64 s1, .int .i64 s2] 23)
  obtain ⟨Aa, Ab, Al⟩ := carry2 hx1 Al Aa Ab
  obtain ⟨Ba, Bb, Bl⟩ := carry2 hx1 Bl Ba Bb
  clear hx1
  go_wp2_with fail
  refine (unhide BA' _).mono ?_
  rintro e w2 ⟨rfl, hb2⟩
  obtain ⟨Sa, Sb, Sl⟩ := carry2 (nb := w1.heap.size) hb2 (by simp) (by simp [go_sem]; rfl) (by simp [go_sem]; rfl)
  obtain ⟨Aa, Ab, Al⟩ := carry2 hb2 Al Aa Ab
  obtain ⟨Ba, Bb, Bl⟩ := carry2 hb2 Bl Ba Bb
  have hw2 := hy1.trans (hb2.mono (Nat.le_trans hw1.size (by simp)))
  clear hb2
  have hx2 := (Below.refl w2.heap.size w2).alloc (Nat.le_refl _) (.cells #[.int .i64 s1, .int .i64 s2] 23)
  have hy2 := hw2.alloc hw2.size (.cells #[.int .i64 s1, .int .i64 s2] 23)
  obtain ⟨Aa, Ab, Al⟩ := carry2 hx2 Al Aa Ab
  obtain ⟨Ba, Bb, Bl⟩ := carry2 hx2 Bl Ba Bb
  obtain ⟨Sa, Sb, Sl⟩ := carry2 hx2 Sl Sa Sb
  clear hx2
  go_wp2_with fail
  refine (unhide MAB' _).mono ?_
  rintro e w3 ⟨rfl, hb3⟩
  obtain ⟨Ta, Tb, Tl⟩ := carry2 (nb := w2.heap.size) hb3 (by simp) (by simp [go_sem]; rfl) (by simp [go_sem]; rfl)
  obtain ⟨Aa, Ab, Al⟩ := carry2 hb3 Al Aa Ab
  obtain ⟨Ba, Bb, Bl⟩ := carry2 hb3 Bl Ba Bb
  obtain ⟨Sa, Sb, Sl⟩ := carry2 hb3 Sl Sa Sb
  have hw3 := hy2.trans (hb3.mono (Nat.le_trans hw2.size (by simp)))
  clear hb3
  have hx3 := (Below.refl w3.heap.size w3).alloc (Nat.le_refl _) (.cells #[.int .i64 m1, .int .i64 m2] 23)
  have hy3 := hw3.alloc hw3.size (.cells #[.int .i64 m1, .int .i64 m2] 23)
  obtain ⟨Aa, Ab, Al⟩ := carry2 hx3 Al Aa Ab
  obtain ⟨Ba, Bb, Bl⟩ := carry2 hx3 Bl Ba Bb
  obtain ⟨Sa, Sb, Sl⟩ := carry2 hx3 Sl Sa Sb
  obtain ⟨Ta, Tb, Tl⟩ := carry2 hx3 Tl Ta Tb
  clear hx3
  go_wp2_with fail
  refine (unhide MBA' _).mono ?_
  rintro e w4 ⟨rfl, hb4⟩
  obtain ⟨Pa, Pb, Pl⟩ := carry2 (nb := w3.heap.size) hb4 (by simp) (by simp [go_sem]; rfl) (by simp [go_sem]; rfl)
  obtain ⟨Aa, Ab, Al⟩ := carry2 hb4 Al Aa Ab
  obtain ⟨Ba, Bb, Bl⟩ := carry2 hb4 Bl Ba Bb
  obtain ⟨Sa, Sb, Sl⟩ := carry2 hb4 Sl Sa Sb
  obtain ⟨Ta, Tb, Tl⟩ := carry2 hb4 Tl Ta Tb
  have hw4 := hy3.trans (hb4.mono (Nat.le_trans hw3.size (by simp)))
  clear hb4
  have hx4 := (Below.refl w4.heap.size w4).alloc (Nat.le_refl _) (.cells #[.int .i64 m1, .int .i64 m2] 23)
  have hy4 := hw4.alloc hw4.size (.cells #[.int .i64 m1, .int .i64 m2] 23)
  obtain ⟨Aa, Ab, Al⟩ := carry2 hx4 Al Aa Ab
  obtain ⟨Ba, Bb, Bl⟩ := carry2 hx4 Bl Ba Bb
  obtain ⟨Sa, Sb, Sl⟩ := carry2 hx4 Sl Sa Sb
  obtain ⟨Ta, Tb, Tl⟩ := carry2 hx4 Tl Ta Tb
  obtain ⟨Pa, Pb, Pl⟩ := carry2 hx4 Pl Pa Pb
  clear hx4
  go_wp2_with fail
  refine (unhide Z' _).mono ?_
  rintro e w5 ⟨rfl, hb5⟩
  obtain ⟨Qa, Qb, Ql⟩ := carry2 (nb := w4.heap.size) hb5 (by simp) (by simp [go_sem]; rfl) (by simp [go_sem]; rfl)
  obtain ⟨Aa, Ab, Al⟩ := carry2 hb5 Al Aa Ab
  obtain ⟨Ba, Bb, Bl⟩ := carry2 hb5 Bl Ba Bb
  obtain ⟨Sa, Sb, Sl⟩ := carry2 hb5 Sl Sa Sb
  obtain ⟨Ta, Tb, Tl⟩ := carry2 hb5 Tl Ta Tb
  obtain ⟨Pa, Pb, Pl⟩ := carry2 hb5 Pl Pa Pb
  have hw5 := hy4.trans (hb5.mono (Nat.le_trans hw4.size (by simp)))
  clear hb5
  have hx5 := (Below.refl w5.heap.size w5).alloc (Nat.le_refl _) (.cells #[.int .i64 c1, .int .i64 x1] 23)
  have hy5 := hw5.alloc hw5.size (.cells #[.int .i64 c1, .int .i64 x1] 23)
  obtain ⟨Aa, Ab, Al⟩ := carry2 hx5 Al Aa Ab
  obtain ⟨Ba, Bb, Bl⟩ := carry2 hx5 Bl Ba Bb
  obtain ⟨Sa, Sb, Sl⟩ := carry2 hx5 Sl Sa Sb
  obtain ⟨Ta, Tb, Tl⟩ := carry2 hx5 Tl Ta Tb
  obtain ⟨Pa, Pb, Pl⟩ := carry2 hx5 Pl Pa Pb
  obtain ⟨Qa, Qb, Ql⟩ := carry2 hx5 Ql Qa Qb
  clear hx5
  go_wp2_with fail
  refine (unhide O' _).mono ?_
  rintro e w6 ⟨rfl, hb6⟩
  obtain ⟨Za, Zb, Zl⟩ := carry2 (nb := w5.heap.size) hb6 (by simp) (by simp [go_sem]; rfl) (by simp [go_sem]; rfl)
  obtain ⟨Aa, Ab, Al⟩ := carry2 hb6 Al Aa Ab
  obtain ⟨Ba, Bb, Bl⟩ := carry2 hb6 Bl Ba Bb
  obtain ⟨Sa, Sb, Sl⟩ := carry2 hb6 Sl Sa Sb
  obtain ⟨Ta, Tb, Tl⟩ := carry2 hb6 Tl Ta Tb
  obtain ⟨Pa, Pb, Pl⟩ := carry2 hb6 Pl Pa Pb
  obtain ⟨Qa, Qb, Ql⟩ := carry2 hb6 Ql Qa Qb
  have hw6 := hy5.trans (hb6.mono (Nat.le_trans hw5.size (by simp)))
  clear hb6
  have hx6 := (Below.refl w6.heap.size w6).alloc (Nat.le_refl _) (.cells #[.int .i64 c1, .int .i64 x1] 23)
  have hy6 := hw6.alloc hw6.size (.cells #[.int .i64 c1, .int .i64 x1] 23)
  obtain ⟨Aa, Ab, Al⟩ := carry2 hx6 Al Aa Ab
  obtain ⟨Ba, Bb, Bl⟩ := carry2 hx6 Bl Ba Bb
  obtain ⟨Sa, Sb, Sl⟩ := carry2 hx6 Sl Sa Sb
  obtain ⟨Ta, Tb, Tl⟩ := carry2 hx6 Tl Ta Tb
  obtain ⟨Pa, Pb, Pl⟩ := carry2 hx6 Pl Pa Pb
  obtain ⟨Qa, Qb, Ql⟩ := carry2 hx6 Ql Qa Qb
  obtain ⟨Za, Zb, Zl⟩ := carry2 hx6 Zl Za Zb
  clear hx6
  go_wp2_with fail
  refine (unhide N' _).mono ?_
  rintro e w7 ⟨rfl, hb7⟩
  obtain ⟨Oa, Ob, Ol⟩ := carry2 (nb := w6.heap.size) hb7 (by simp) (by simp [go_sem]; rfl) (by simp [go_sem]; rfl)
  obtain ⟨Aa, Ab, Al⟩ := carry2 hb7 Al Aa Ab
  obtain ⟨Ba, Bb, Bl⟩ := carry2 hb7 Bl Ba Bb
  obtain ⟨Sa, Sb, Sl⟩ := carry2 hb7 Sl Sa Sb
  obtain ⟨Ta, Tb, Tl⟩ := carry2 hb7 Tl Ta Tb
  obtain ⟨Pa, Pb, Pl⟩ := carry2 hb7 Pl Pa Pb
  obtain ⟨Qa, Qb, Ql⟩ := carry2 hb7 Ql Qa Qb
  obtain ⟨Za, Zb, Zl⟩ := carry2 hb7 Zl Za Zb
  have hw7 := hy6.trans (hb7.mono (Nat.le_trans hw6.size (by simp)))
  clear hb7
  have hx7 := (Below.refl w7.heap.size w7).alloc (Nat.le_refl _) (.cells #[.int .i64 0, .int .i64 0] 23)
  have hy7 := hw7.alloc hw7.size (.cells #[.int .i64 0, .int .i64 0] 23)
  obtain ⟨Aa, Ab, Al⟩ := carry2 hx7 Al Aa Ab
  obtain ⟨Ba, Bb, Bl⟩ := carry2 hx7 Bl Ba Bb
  obtain ⟨Sa, Sb, Sl⟩ := carry2 hx7 Sl Sa Sb
  obtain ⟨Ta, Tb, Tl⟩ := carry2 hx7 Tl Ta Tb
  obtain ⟨Pa, Pb, Pl⟩ := carry2 hx7 Pl Pa Pb
  obtain ⟨Qa, Qb, Ql⟩ := carry2 hx7 Ql Qa Qb
  obtain ⟨Za, Zb, Zl⟩ := carry2 hx7 Zl Za Zb
  obtain ⟨Oa, Ob, Ol⟩ := carry2 hx7 Ol Oa Ob
  clear hx7
  have hN := (Below.refl w7.heap.size w7).alloc (Nat.le_refl _) (.cells #[.int .i64 0, .int .i64 0] 23)
  clear hN
  go_wp2_with fail
  refine (unhide D' _).mono ?_
  rintro e w8 ⟨rfl, hb8⟩
  obtain ⟨Aa, Ab, Al⟩ := carry2 hb8 Al Aa Ab
  have hw8 := hy7.trans (hb8.mono (Nat.le_trans hw7.size (by simp)))
  clear hb8
  rcases unhide FIN with ⟨rfl, rfl⟩ | ⟨g0, rfl, rfl, rfl⟩
  · go_wp2
    go_ret
    exact ⟨rfl, hw8.alloc hw8.size _⟩
  · have g1 : (c1 == 0) = false := by simp [g0]
    have g2 : (c1 != 0) = true := by simp [g0]
    clear g0
    go_wp2
    go_ret
    exact ⟨rfl, hw8.alloc hw8.size _⟩
end Go.Proofs.Ythgiepppcpjpaaa
