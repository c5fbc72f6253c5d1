/- Walks: what is wrong with a type. -/
import Derived.Test.YtjgonkcfnfgakaaGreatDoorU7
namespace Go.Proofs.YtjgonkcfnfgakaaGreatDoor
open Go.RowKit

theorem wT1 {d : Nat} {T : TT} (h : 10 < d) : wrongTy d T = 4 := by
  cases T with
  | mk k ks =>
    rcases ks with _ | ⟨e, _ | ⟨f, r⟩⟩
    · rw [wrongTy_leaf, if_pos (by omega)]
    · rw [wrongTy_one, if_pos (by omega)]
    · rw [wrongTy_more, if_pos (by omega)]
theorem wT2 {d : Nat} {k : Int} {ks : List TT} (h : ¬ 10 < d) (g : k < 1 ∨ 6 < k) : wrongTy d (.mk k ks) = 1 := by
  rcases ks with _ | ⟨e, _ | ⟨f, r⟩⟩
  · rw [wrongTy_leaf, if_neg (by omega), if_pos g]
  · rw [wrongTy_one, if_neg (by omega), if_pos g]
  · rw [wrongTy_more, if_neg (by omega), if_pos g]
theorem wT3 {d : Nat} {k : Int} {ks : List TT} (h : ¬ 10 < d) (g : ¬ (k < 1 ∨ 6 < k)) (q : k ≠ 5) (l : ks.length ≠ 0) : wrongTy d (.mk k ks) = 5 := by
  rcases ks with _ | ⟨e, _ | ⟨f, r⟩⟩
  · simp at l
  · rw [wrongTy_one, if_neg (by omega), if_neg g, if_pos q]
  · rw [wrongTy_more, if_neg (by omega), if_neg g]
theorem wT4 {d : Nat} {k : Int} {ks : List TT} (h : ¬ 10 < d) (g : ¬ (k < 1 ∨ 6 < k)) (q : k ≠ 5) (l : ks.length = 0) : wrongTy d (.mk k ks) = 0 := by
  obtain rfl := List.length_eq_zero_iff.1 l
  rw [wrongTy_leaf, if_neg (by omega), if_neg g, if_pos q]
theorem wT5 {d : Nat} {ks : List TT} (h : ¬ 10 < d) (l : ks.length ≠ 1) : wrongTy d (.mk 5 ks) = 5 := by
  rcases ks with _ | ⟨e, _ | ⟨f, r⟩⟩
  · rw [wrongTy_leaf, if_neg (by omega), if_neg (by omega), if_neg (by omega)]
  · simp at l
  · rw [wrongTy_more, if_neg (by omega), if_neg (by omega)]
theorem wT6 {d : Nat} {e : TT} (h : ¬ 10 < d) : wrongTy d (.mk 5 [e]) = wrongTy (d + 1) e := by
  rw [wrongTy_one, if_neg (by omega), if_neg (by omega), if_neg (by omega)]

set_option maxHeartbeats 4000000 in
theorem tWrong_any (T : TT) (u : Array Value) (w : World) (hu : MemT w.heap.size w T u) :
    Calls Tryz.prog 7 #[.agg u] w fun e w' => e = .returned (.int .i64 (wrongTy 1 T)) ∧ Below w.heap.size w w' := by
  obtain ⟨k1, a1, n1, c1, rfl⟩ := hu.form
  have HU := hide hu
  clear hu
  obtain ⟨R, hR⟩ : ∃ R, R = wrongTy 1 T := ⟨_, rfl⟩
  rw [← hR]
  have HR := hide hR.symm
  clear hR
  have X0 := hide (Bx2.new w 24 (.int .i64 k1) (.slice a1 n1 c1))
  have B0 := hide ((Below.refl w.heap.size w).alloc (Nat.le_refl _) (.cells #[.int .i64 k1, .slice a1 n1 c1] 24))
  go_enter Tryz.func7, Tryz.ntmps7
  go_wp2_with fail
  go_loopw [3] (fun i wr => ∃ (d : Nat) (T' : TT) (k : Int) (a : Option Addr) (n c : Nat), 1 ≤ d ∧ d ≤ 11 ∧ i = .int .i64 (d : Int) ∧ Hid (wrongTy d T' = R) ∧ Hid (Bx2 wr w.heap.size (.int .i64 k) (.slice a n c)) ∧ Hid (MemT w.heap.size w T' #[.int .i64 k, .slice a n c]) ∧ Hid (Below w.heap.size w wr)) (fun i _ => 11 - (intOf i).toNat)
  case atStart => exact ⟨1, T, k1, a1, n1, c1, by omega, by omega, rfl, HR, X0, HU, B0⟩
  case round =>
    obtain ⟨d, T', k, a, n, c, hd1, hd2, rfl, HT, HX, HM, HB⟩ := hrel
    clear X0 B0 HU HR
    have X := unhide HX
    have x0 := X.at0
    have x1 := X.at1
    have t0 := X.th0
    have t1 := X.th1
    have lx := X.low
    clear X
    cases T' with
    | mk k' ks =>
      have hM := unhide HM
      obtain ⟨hl, a', c', hv⟩ := MemTP.any hM
      simp only [Array.mk.injEq, List.cons.injEq, and_true, Value.int.injEq, Value.slice.injEq, true_and] at hv
      obtain ⟨rfl, rfl, rfl, rfl⟩ := hv
      by_cases h1 : 10 < d
      · have e := wT1 (T := .mk k ks) h1
        rw [unhide HT] at e
        have HE := hide e
        have h1' : (10 : Int) < (d : Int) := by omega
        clear e HT HX HM hM
        go_wp2
        go_ret
        exact ⟨by rw [unhide HE]; rfl, unhide HB⟩
      have h1' : ¬ (10 : Int) < (d : Int) := by omega
      by_cases h2 : k < 1 ∨ 6 < k
      · have e := wT2 (ks := ks) h1 h2
        rw [unhide HT] at e
        have HE := hide e
        clear e HT HX HM hM
        rcases Int.lt_or_le k 1 with h3 | h3
        · clear h2
          go_wp2
          go_ret
          exact ⟨by rw [unhide HE]; rfl, unhide HB⟩
        · have h4 : 6 < k := by omega
          have h5 : ¬ k < 1 := by omega
          clear h2
          go_wp2
          go_ret
          exact ⟨by rw [unhide HE]; rfl, unhide HB⟩
      have h3 : ¬ k < 1 := by omega
      have h4 : ¬ 6 < k := by omega
      by_cases h5 : k = 5
      · subst h5
        by_cases h6 : ks.length = 1
        · obtain ⟨e, rfl⟩ := List.length_eq_one_iff.1 h6
          obtain ⟨b, off, cap, y0, y1, hv, hlb, q0, q1, hK⟩ := MemTP.kid hM
          simp only [Array.mk.injEq, List.cons.injEq, and_true, Value.slice.injEq, true_and] at hv
          obtain ⟨rfl, _, rfl⟩ := hv
          obtain ⟨k', a', n', cap', hy⟩ := hK.form
          simp only [Array.mk.injEq, List.cons.injEq, and_true] at hy
          obtain ⟨rfl, rfl⟩ := hy
          rw [← (unhide HB).cell (p := ⟨b, off, none⟩) hlb] at q0
          rw [← (unhide HB).cell (p := ⟨b, off + 1, none⟩) hlb] at q1
          have e1 := wT6 (e := e) h1
          rw [unhide HT] at e1
          have HE := hide e1.symm
          have HK : Hid (MemT w.heap.size w e #[.int .i64 k', .slice a' n' cap']) := hide hK
          have HX2 := hide ((unhide HX).put (.int .i64 k') (.slice a' n' cap'))
          have HB2 := hide (((unhide HB).setCell (p := ⟨w.heap.size, 0, none⟩) (Nat.le_refl _) (.int .i64 k')).setCell (p := ⟨w.heap.size, 1, none⟩) (Nat.le_refl _) (.slice a' n' cap'))
          clear e1 HT HX HM hM hK HB h6 h2
          go_wp2
          go_roundw
          case rel => exact ⟨d + 1, e, k', a', n', cap', by omega, by omega, by go_num, HE, HX2, HK, HB2⟩
          case measure => simp [intOf]; omega
        · have e := wT5 (ks := ks) h1 h6
          rw [unhide HT] at e
          have HE := hide e
          have h7 : ((ks.length : Int) == 1) = false := by simp; omega
          clear e HT HX HM hM h2
          go_wp2
          go_ret
          exact ⟨by rw [unhide HE]; rfl, unhide HB⟩
      · have h8 : (k == 5) = false := by simpa using h5
        by_cases h6 : ks.length = 0
        · have e := wT4 (ks := ks) h1 h2 h5 h6
          rw [unhide HT] at e
          have HE := hide e
          obtain rfl := List.length_eq_zero_iff.1 h6
          simp only [List.length_nil] at x1
          clear e HT HX HM hM h2 h6
          go_wp2
          go_ret
          exact ⟨by rw [unhide HE]; rfl, unhide HB⟩
        · have e := wT3 (ks := ks) h1 h2 h5 h6
          rw [unhide HT] at e
          have HE := hide e
          have h7 : ((ks.length : Int) != 0) = true := by
            have : ¬ (ks.length : Int) = 0 := by omega
            simpa using this
          clear e HT HX HM hM h2
          go_wp2
          go_ret
          exact ⟨by rw [unhide HE]; rfl, unhide HB⟩
end Go.Proofs.YtjgonkcfnfgakaaGreatDoor
