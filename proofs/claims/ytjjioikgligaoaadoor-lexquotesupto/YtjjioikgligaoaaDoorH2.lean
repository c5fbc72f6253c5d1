/- The walk over LexJoined. -/
import Derived.Test.YtjjioikgligaoaaDoorH1
namespace Go.Proofs.YtjjioikgligaoaaDoor
open Go.RowKit

/-- tokens in memory, whatever their block -/
theorem TM.sl {B : Nat} {w : World} {sv : Value} {l : List Tk} (h : TM B w sv l) : ∃ a cap, sv = .slice a l.length cap ∧ l.length ≤ cap := by
  by_cases q : l = []
  · subst q
    obtain ⟨a, cap, e⟩ := h.zero
    exact ⟨a, cap, e, by simp⟩
  · obtain ⟨g, cap, e, h1, _⟩ := h.at q
    exact ⟨_, cap, e, h1⟩
theorem TM.tok {B : Nat} {w : World} {a : Option Addr} {cap : Nat} {l : List Tk} {k : Nat} {t : Tk} (h : TM B w (.slice a l.length cap) l) (ht : l[k]? = some t) : ∃ g, a = some ⟨g, 0, none⟩ ∧ g < w.heap.size ∧ w.cell? ⟨g, k * 5, none⟩ = some (.int .i64 t.k) ∧ w.cell? ⟨g, k * 5 + 1, none⟩ = some (.string ⟨t.t.toArray⟩) ∧ w.cell? ⟨g, k * 5 + 2, none⟩ = some (.int .i64 t.c) ∧ w.cell? ⟨g, k * 5 + 3, none⟩ = some (.int .i64 t.x) ∧ w.cell? ⟨g, k * 5 + 4, none⟩ = some (.int .i64 (t.a : Int)) := by
  obtain ⟨g, cap', hsv, _, _, hgl, _, hcell⟩ := h.at (by intro q; rw [q] at ht; simp at ht)
  obtain rfl : a = some ⟨g, 0, none⟩ := by injection hsv
  have d0 := hcell k t ht 0 _ rfl
  rw [Nat.add_zero] at d0
  exact ⟨g, rfl, hgl, d0, hcell k t ht 1 _ rfl, hcell k t ht 2 _ rfl, hcell k t ht 3 _ rfl, hcell k t ht 4 _ rfl⟩

set_option maxHeartbeats 1000000 in
theorem joined_no (s t : ByteArray) (w : World) (hL : LT w) (hS : SG w) (h : ¬ (toksF s.data.toList).2.1 = 0 ∨ ¬ (toksF t.data.toList).2.1 = 0 ∨ 4000 < s.size + t.size + 1) :
    Calls Tryd.prog 4 #[.string s, .string t] w fun e w' => e = .returned (.bool true) ∧ Below w.heap.size w w' := by
  have A := hide (alive_any w hL hS)
  have T1 := hide (fun wx hb => tokens_of s wx (hL.on hb) (hS.on hb))
  have T2 := hide (fun wx hb => tokens_of t wx (hL.on hb) (hS.on hb))
  have b1 : (toksF s.data.toList).2.1 = 0 → s.size ≤ 4000 := fun q => by have := (toksF_valid q).1; rw [← Lib.size_eq] at this; exact this
  have b2 : (toksF t.data.toList).2.1 = 0 → t.size ≤ 4000 := fun q => by have := (toksF_valid q).1; rw [← Lib.size_eq] at this; exact this
  generalize toksF s.data.toList = q at *
  generalize toksF t.data.toList = r at *
  obtain ⟨q1, q2, q3⟩ := q
  obtain ⟨r1, r2, r3⟩ := r
  simp only at T1 T2 h b1 b2
  have hh : (q2 != 0) = true ∨ ((q2 != 0) = false ∧ (r2 != 0) = true) ∨ ((q2 != 0) = false ∧ (r2 != 0) = false ∧ (4000 : Int) < (s.size : Int) + (t.size : Int) + 1 ∧ s.size ≤ 4000 ∧ t.size ≤ 4000) := by
    by_cases e1 : q2 = 0
    · by_cases e2 : r2 = 0
      · right; right
        refine ⟨by simp [e1], by simp [e2], ?_, b1 e1, b2 e2⟩
        rcases h with q | q | q
        · exact absurd e1 q
        · exact absurd e2 q
        · omega
      · right; left; exact ⟨by simp [e1], by simpa using e2⟩
    · left; simpa using e1
  clear hL hS h b1 b2
  rcases hh with e1 | ⟨e1, e2⟩ | ⟨e1, e2, e3, e4, e5⟩
  all_goals
    go_enter Tryd.func4, Tryd.ntmps4
    go_wp2_with fail
    refine (unhide A).mono ?_
    rintro e w1 ⟨rfl, hb⟩
    go_wp2_with fail
    refine (unhide T1 _ hb).mono ?_
    rintro e w2 ⟨⟨sv, rfl, hT⟩, hb2⟩
    obtain ⟨a, cap, rfl, _⟩ := hT.sl
    have hb3 := hb.trans (hb2.mono hb.size)
    have hb4 := hb3.alloc hb3.size (.cells #[.int .i64 q2, .int .i64 (q3 : Int)] 28)
    clear hT T1 A hb hb2
    go_wp2_with fail
    refine (unhide T2 _ hb4).mono ?_
    rintro e w3 ⟨⟨sv2, rfl, hT⟩, hb2⟩
    obtain ⟨a2, cap2, rfl, _⟩ := hT.sl
    have hb5 := hb4.trans (hb2.mono hb4.size)
    have c0 : w3.cell? ⟨w2.heap.size, 0, none⟩ = some (.int .i64 q2) := (hb2.cell (p := ⟨w2.heap.size, 0, none⟩) (by simp)).trans (by simp [go_sem])
    have cl : w2.heap.size < w3.heap.size := by have := hb2.size; simp at this; omega
    clear hT T2 hb2 hb3 hb4
    go_wp2
    go_ret
    exact ⟨rfl, hb5.alloc hb5.size _⟩

theorem cov_at (l : List UInt8) : ∀ (ts : List Tk) (e : Nat), Cov l e ts → ∀ (i : Nat) (t : Tk), ts[i]? = some t → t.a ≤ l.length
  | [], _, _, i, t, h => by simp at h
  | a :: ts, e, hc, 0, t, h => by
    simp only [List.getElem?_cons_zero, Option.some.injEq] at h
    subst h
    have := hc.2.2.1
    omega
  | a :: ts, e, hc, i + 1, t, h => cov_at l ts _ hc.2.2.2.2 i t (by simpa using h)
theorem toksF_len {l : List UInt8} (h : (toksF l).2.1 = 0) : (toksF l).1.length ≤ 4000 := by
  obtain ⟨cv, hl⟩ := toksF_ok h
  have := cov_len _ _ _ (Nat.zero_le _) cv
  omega

set_option maxHeartbeats 4000000 in
set_option maxRecDepth 100000 in
theorem joined_ok (s t : ByteArray) (w : World) (hL : LT w) (hS : SG w) (h1 : (toksF s.data.toList).2.1 = 0) (h2 : (toksF t.data.toList).2.1 = 0) (h3 : s.size + t.size + 1 ≤ 4000) :
    Calls Tryd.prog 4 #[.string s, .string t] w fun e w' => e = .returned (.bool true) ∧ Below w.heap.size w w' := by
  have A := hide (alive_any w hL hS)
  have T1 := hide (fun wx hb => tokens_of s wx (hL.on hb) (hS.on hb))
  have T2 := hide (fun wx hb => tokens_of t wx (hL.on hb) (hS.on hb))
  have T3 := fun wx hb => tokens_of (s ++ ⟨#[32]⟩ ++ t) wx (hL.on hb) (hS.on hb)
  rw [show (s ++ ⟨#[32]⟩ ++ t).data.toList = s.data.toList ++ 32 :: t.data.toList by rw [app_data, app_data]; simp, toks_join h1 h2 (by rw [← Lib.size_eq, ← Lib.size_eq]; exact h3), ← Lib.size_eq] at T3
  replace T3 := hide T3
  have l1 := toksF_len h1
  have l2 := toksF_len h2
  have CB := hide (toksF_ok h2)
  generalize toksF s.data.toList = q at *
  generalize toksF t.data.toList = r at *
  obtain ⟨ta, q2, q3⟩ := q
  obtain ⟨tb, r2, r3⟩ := r
  simp only at T1 T2 T3 h1 h2 l1 l2
  subst h1 h2
  have e3 : ¬ (4000 : Int) < (s.size : Int) + (t.size : Int) + 1 := by omega
  have e4 : s.size ≤ 4000 := by omega
  have e5 : t.size ≤ 4000 := by omega
  have z1 : (⟨#[32]⟩ : ByteArray).size = 1 := rfl
  have z2 : (s ++ ⟨#[32]⟩).size = s.size + 1 := by rw [ByteArray.size_append, z1]
  have z3 : s.size + (⟨#[32]⟩ : ByteArray).size ≤ 9000 := by omega
  have z4 : (s ++ ⟨#[32]⟩).size + t.size ≤ 9000 := by omega
  obtain ⟨tc, htc⟩ : ∃ tc, tc = ta ++ tb.map (shift (s.size + 1)) := ⟨_, rfl⟩
  rw [← htc] at T3
  have lc : tc.length = ta.length + tb.length := by rw [htc]; simp
  have HC := hide htc
  clear hL hS htc z1 z2 h3
  go_enter Tryd.func4, Tryd.ntmps4
  go_wp2_with fail
  refine (unhide A).mono ?_
  rintro e w1 ⟨rfl, hb⟩
  go_wp2_with fail
  refine (unhide T1 _ hb).mono ?_
  rintro e w2 ⟨⟨sv, rfl, hT⟩, hb2⟩
  obtain ⟨a, cap, rfl, hca⟩ := hT.sl
  have hb3 := hb.trans (hb2.mono hb.size)
  have hb4 := hb3.alloc hb3.size (.cells #[.int .i64 0, .int .i64 (q3 : Int)] 28)
  have A1 := hide (hT.below ((Below.refl _ w2).alloc (Nat.le_refl _) (.cells #[.int .i64 0, .int .i64 (q3 : Int)] 28)))
  clear hT T1 A hb hb2 hb3
  go_wp2_with fail
  refine (unhide T2 _ hb4).mono ?_
  rintro e w3 ⟨⟨sv2, rfl, hT⟩, hb2⟩
  obtain ⟨a2, cap2, rfl, hca2⟩ := hT.sl
  have hb5 := hb4.trans (hb2.mono hb4.size)
  have c0 : w3.cell? ⟨w2.heap.size, 0, none⟩ = some (.int .i64 0) := (hb2.cell (p := ⟨w2.heap.size, 0, none⟩) (by simp)).trans (by simp [go_sem])
  have cl : w2.heap.size < w3.heap.size := by have := hb2.size; simp at this; omega
  have ba := (Below.refl _ w3).alloc (Nat.le_refl _) (.cells #[.int .i64 0, .int .i64 (r3 : Int)] 28)
  have A2 := hide (((unhide A1).below hb2).below ba)
  have B2 := hide (hT.below ba)
  have hb6 := hb5.alloc hb5.size (.cells #[.int .i64 0, .int .i64 (r3 : Int)] 28)
  clear hT T2 hb2 hb4 hb5 ba A1
  go_wp2_with fail
  refine (unhide T3 _ hb6).mono ?_
  rintro e w4 ⟨⟨sv3, rfl, hT⟩, hb2⟩
  obtain ⟨a3, cap3, rfl, hca3⟩ := hT.sl
  have hb7 := hb6.trans (hb2.mono hb6.size)
  have ba := (Below.refl _ w4).alloc (Nat.le_refl _) (.cells #[.int .i64 0, .int .i64 0] 28)
  have A3 := hide (((unhide A2).below hb2).below ba)
  have B3 := hide (((unhide B2).below hb2).below ba)
  have C3 := hide (hT.below ba)
  have HB := hide (hb7.alloc hb7.size (.cells #[.int .i64 0, .int .i64 0] 28))
  have lcI : (tc.length : Int) = (ta.length : Int) + (tb.length : Int) := by omega
  have lcB : ((tc.length : Int) != (ta.length : Int) + (tb.length : Int)) = false := by simp [lcI]
  have LC := hide lc
  clear hT T3 hb2 hb6 hb7 ba A2 B2 c0 lc lcI
  go_wp2
  go_loopw [66] (fun i wr => ∃ k : Nat, k ≤ tc.length ∧ i = .int .i64 (k : Int) ∧ Hid (TM (w1.heap.size + 1) wr (.slice a ta.length cap) ta) ∧ (∃ b2 b3, Hid (TM b2 wr (.slice a2 tb.length cap2) tb) ∧ Hid (TM b3 wr (.slice a3 tc.length cap3) tc)) ∧ Hid (Below w.heap.size w wr)) (fun i _ => tc.length - (intOf i).toNat)
  case atStart => exact ⟨0, Nat.zero_le _, rfl, A3, ⟨_, _, B3, C3⟩, HB⟩
  case round =>
    obtain ⟨k, hk, rfl, A4, ⟨b2, b3, B4, C4⟩, HB4⟩ := hrel
    clear A3 B3 C3 HB
    by_cases hlt : k < tc.length
    · obtain ⟨x, hx⟩ : ∃ x, tc[k]? = some x := ⟨_, List.getElem?_eq_getElem hlt⟩
      obtain ⟨g, rfl, hg, x0, x1, x2, x3, x4⟩ := (unhide C4).tok hx
      have hkI : (k : Int) < (tc.length : Int) := by omega
      have hk8 : k < 8001 := by have := unhide LC; omega
      have nx : ∀ o o' : Obj, Below wr.heap.size wr ((wr.alloc o).alloc o') := fun o o' => ((Below.refl _ wr).alloc (Nat.le_refl _) o).alloc (by simp) o'
      have NA := hide (fun o o' => (unhide A4).below (nx o o'))
      have NB := hide (fun o o' => (unhide B4).below (nx o o'))
      have NC := hide (fun o o' => (unhide C4).below (nx o o'))
      have NW := hide (fun o o' => (unhide HB4).trans ((nx o o').mono (unhide HB4).size))
      rw [unhide HC] at hx
      by_cases hka : k < ta.length
      · rw [List.getElem?_append_left hka] at hx
        obtain ⟨g2, rfl, hg2, y0, y1, y2, y3, y4⟩ := (unhide A4).tok hx
        have hkaI : (k : Int) < (ta.length : Int) := by omega
        obtain ⟨xk, xt, xc, xx, xa⟩ := x
        simp only at x0 x1 x2 x3 x4 y0 y1 y2 y3 y4
        obtain ⟨X, hX⟩ : ∃ X : ByteArray, X = ⟨xt.toArray⟩ := ⟨_, rfl⟩
        rw [← hX] at x1 y1
        clear hx hX nx A4 B4 C4 HB4
        go_wp2
        go_roundw
        case rel => exact ⟨k + 1, by omega, by go_num, hide (unhide NA _ _), ⟨b2, b3, hide (unhide NB _ _), hide (unhide NC _ _)⟩, hide (unhide NW _ _)⟩
        case measure => simp [intOf]; omega
      · have hka2 : ta.length ≤ k := by omega
        rw [List.getElem?_append_right hka2, List.getElem?_map, Option.map_eq_some_iff] at hx
        obtain ⟨y, hy, rfl⟩ := hx
        obtain ⟨g2, rfl, hg2, y0, y1, y2, y3, y4⟩ := (unhide B4).tok hy
        have hkaI : ¬ (k : Int) < (ta.length : Int) := by omega
        obtain ⟨j, hj⟩ : ∃ j : Nat, j = k - ta.length := ⟨_, rfl⟩
        have hJ : (k : Int) - (ta.length : Int) = (j : Int) := by omega
        have hjI : (j : Int) < (tb.length : Int) := by have := unhide LC; omega
        have hjN : j < tb.length := by have := unhide LC; omega
        rw [← hj] at y0 y1 y2 y3 y4
        obtain ⟨xk, xt, xc, xx, xa⟩ := y
        simp only [shift] at x0 x1 x2 x3 x4 y0 y1 y2 y3 y4
        obtain ⟨X, hX⟩ : ∃ X : ByteArray, X = ⟨xt.toArray⟩ := ⟨_, rfl⟩
        rw [← hX] at x1 y1
        rw [show ((xa + (s.size + 1) : Nat) : Int) = (xa : Int) + (s.size : Int) + 1 by omega] at x4
        have hxa : (xa : Int) ≤ 4000 := by
          obtain ⟨cv, _⟩ := unhide CB
          have := cov_at _ _ _ cv _ _ hy
          rw [← Lib.size_eq] at this
          simp only at this
          omega
        clear hy hX nx A4 B4 C4 HB4 hj
        go_wp2
        go_roundw
        case rel => exact ⟨k + 1, by omega, by go_num, hide (unhide NA _ _), ⟨b2, b3, hide (unhide NB _ _), hide (unhide NC _ _)⟩, hide (unhide NW _ _)⟩
        case measure => simp [intOf]; omega
    · have hkI : ¬ (k : Int) < (tc.length : Int) := by omega
      go_wp2
      go_ret
      exact ⟨rfl, unhide HB4⟩

theorem joined_walk (s t : ByteArray) (w : World) (hf : LT w ∧ SG w) :
    Calls Tryd.prog 4 #[.string s, .string t] w fun e w' => e = .returned (.bool true) ∧ Below w.heap.size w w' := by
  by_cases h1 : (toksF s.data.toList).2.1 = 0
  · by_cases h2 : (toksF t.data.toList).2.1 = 0
    · by_cases h3 : s.size + t.size + 1 ≤ 4000
      · exact joined_ok s t w hf.1 hf.2 h1 h2 h3
      · exact joined_no s t w hf.1 hf.2 (.inr (.inr (by omega)))
    · exact joined_no s t w hf.1 hf.2 (.inr (.inl h2))
  · exact joined_no s t w hf.1 hf.2 (.inl h1)
end Go.Proofs.YtjjioikgligaoaaDoor
