/- Walks: of which types a right test may be asked, as the program and the document tell. (Written by gen_s12.py.) -/
import Derived.Test.YtdkgapapdjefdaaGreatDoorG23
import Derived.Test.YtdkgapapdjefdaaGreatDoorG24
namespace Go.Proofs.YtdkgapapdjefdaaGreatDoor
open Go.RowKit

set_option maxHeartbeats 4000000 in
theorem tfits_leaf (k : Int) (hk : ¬ k = 1 ∧ ¬ k = 8 ∧ ¬ k = 9) (ka : Int) (hka : ka = 1 ∨ ka = 2 ∨ ka = 3 ∨ ka = 4) (ty : Int) (a1 a2 a3 a4 a5 b0 b1 b2 b3 b4 b5 o1 o2 sl : Value) (w : World) :
    Calls Tryz.prog 67 #[.agg #[.int .i64 k, .int .i64 ka, a1, a2, a3, a4, a5, b0, b1, b2, b3, b4, b5, o1, o2, sl], .int .i64 ty] w fun e w' => e = .returned (.bool (fitV ka ty)) ∧ Below w.heap.size w w' := by
  have n1 : (k == 1) = false := by simpa using hk.1
  have n8 : (k == 8) = false := by simpa using hk.2.1
  have n9 : (k == 9) = false := by simpa using hk.2.2
  clear hk
  rcases hka with rfl | rfl | rfl | rfl
  · go_enter Tryz.func67, Tryz.ntmps67
    go_wp2
    go_ret
    exact ⟨rfl, vbelow_new _ _⟩
  · by_cases t6 : ty = 6
    · subst t6
      go_enter Tryz.func67, Tryz.ntmps67
      go_wp2
      go_ret
      exact ⟨rfl, vbelow_new _ _⟩
    have t6' : (ty == 6) = false := by simpa using t6
    by_cases tk : ty = 2
    · subst tk
      go_enter Tryz.func67, Tryz.ntmps67
      go_wp2
      go_ret
      exact ⟨rfl, vbelow_new _ _⟩
    · have tk' : (ty == 2) = false := by simpa using tk
      have E : Hid (fitV 2 ty = false) := hide (by simp [fitV, t6, tk])
      go_enter Tryz.func67, Tryz.ntmps67
      go_wp2
      go_ret
      rw [unhide E]
      exact ⟨rfl, vbelow_new _ _⟩
  · by_cases t6 : ty = 6
    · subst t6
      go_enter Tryz.func67, Tryz.ntmps67
      go_wp2
      go_ret
      exact ⟨rfl, vbelow_new _ _⟩
    have t6' : (ty == 6) = false := by simpa using t6
    by_cases tk : ty = 3
    · subst tk
      go_enter Tryz.func67, Tryz.ntmps67
      go_wp2
      go_ret
      exact ⟨rfl, vbelow_new _ _⟩
    · have tk' : (ty == 3) = false := by simpa using tk
      have E : Hid (fitV 3 ty = false) := hide (by simp [fitV, t6, tk])
      go_enter Tryz.func67, Tryz.ntmps67
      go_wp2
      go_ret
      rw [unhide E]
      exact ⟨rfl, vbelow_new _ _⟩
  · by_cases t6 : ty = 6
    · subst t6
      go_enter Tryz.func67, Tryz.ntmps67
      go_wp2
      go_ret
      exact ⟨rfl, vbelow_new _ _⟩
    have t6' : (ty == 6) = false := by simpa using t6
    by_cases tk : ty = 4
    · subst tk
      go_enter Tryz.func67, Tryz.ntmps67
      go_wp2
      go_ret
      exact ⟨rfl, vbelow_new _ _⟩
    · have tk' : (ty == 4) = false := by simpa using tk
      have E : Hid (fitV 4 ty = false) := hide (by simp [fitV, t6, tk])
      go_enter Tryz.func67, Tryz.ntmps67
      go_wp2
      go_ret
      rw [unhide E]
      exact ⟨rfl, vbelow_new _ _⟩


/-- what tfits tells of a right test -/
def FitsC (T : TS) : Prop := ∀ (w : World) (q : Array Value) (ty : Int) (d : Nat), MemS w.heap.size w T q → wrongS T d = 0 →
  Calls Tryz.prog 67 #[.agg q, .int .i64 ty] w fun e w' => e = .returned (.bool (fitsS T ty)) ∧ Below w.heap.size w w'

set_option maxRecDepth 100000 in
set_option maxHeartbeats 8000000 in
theorem FitsC_k8 (a b : Tree) (oa ob : Bool) (ks : List TS) (IH : ∀ u ∈ ks, FitsC u) : FitsC (.mk 8 a b oa ob ks) := by
  intro w q ty d hM hw
  rw [MemS] at hM
  obtain ⟨hkl, a0, a1, a2, a3, a4, a5, b0, b1, b2, b3, b4, b5, ad, cap, ha, hb, rfl, hks⟩ := hM
  have h4 : ¬ 4 < d := by
    intro h
    rw [ws_much h] at hw
    cases hw
  obtain rfl := ha.kd0
  rw [fitsS, if_neg (by decide), if_pos (by decide)]
  rw [ws_kids h4 (by decide)] at hw
  by_cases hn : ks.length < 1 ∨ 20 < ks.length
  · rw [if_pos hn] at hw; cases hw
  rw [if_neg hn] at hw
  obtain ⟨bl, off, rfl, hlt, hm⟩ := hks (by intro e; rw [e] at hn; simp at hn)
  have hm' := hide hm
  have IH' := hide IH
  have HW := hide (wrongSL0 hw)
  obtain ⟨W0, hW0⟩ : ∃ W0, W0 = (w.alloc (.cells #[.int .i64 8, .int .i64 a.kd, a1, a2, a3, a4, a5, b0, b1, b2, b3, b4, b5, .bool oa, .bool ob, .slice (some ⟨bl, off, none⟩) ks.length cap] 35)) := ⟨_, rfl⟩
  have NB : Hid (Below w.heap.size w W0) := hide (by rw [hW0]; exact vbelow_new _ _)
  clear hm IH hw ha hb hks
  go_enter Tryz.func67, Tryz.ntmps67
  go_wp2
  rw [← hW0]
  clear hW0
  go_loopw [17] (fun i wr => ∃ m : Nat, m ≤ ks.length ∧ i = .int .i64 (m : Int) ∧ Hid (fitsL ks ty = fitsL (ks.drop m) ty) ∧ Hid (Below W0.heap.size W0 wr)) (fun i _ => ks.length - (intOf i).toNat)
  case atStart => exact ⟨0, Nat.zero_le _, rfl, hide rfl, hide (Below.refl _ _)⟩
  case round =>
    obtain ⟨m, hml, rfl, H, HB0⟩ := hrel
    have HB := hide (bv (unhide NB) (unhide HB0))
    by_cases hlt2 : m < ks.length
    · have hi1 : (m : Int) < (ks.length : Int) := by omega
      obtain ⟨u, hu⟩ : ∃ u, ks[m]? = some u := ⟨_, List.getElem?_eq_getElem hlt2⟩
      have hdrop := sdrop_at hlt2 hu
      have HU := hide (unhide IH' u (List.mem_of_getElem? hu))
      have HR := hide (unhide HW u (List.mem_of_getElem? hu))
      obtain ⟨cs, h6, hmu⟩ := MemSL.at (MemSL.below (unhide HB) hlt (unhide hm')) m u hu
      have HM := hide hmu
      rw [hdrop] at H
      cases u with
      | mk k' ta tb oa' ob' kk =>
        rw [MemS] at hmu
        obtain ⟨_, d0, d1, d2, d3, d4, d5, e0, e1, e2, e3, e4, e5, ad', cp, hta, htb, rfl, _⟩ := hmu
        obtain ⟨y1, r1, x1, t1, l1, n1, p1, rfl, rfl, rfl, rfl, rfl, rfl⟩ := hta.six
        obtain ⟨y2, r2, x2, t2, l2, n2, p2, rfl, rfl, rfl, rfl, rfl, rfl⟩ := htb.six
        clear hta htb
        obtain ⟨c0, c1, c2, c3, c4, c5, c6, c7, c8, c9, c10, c11, c12, c13, c14, c15⟩ := h6.tell
        clear hu hdrop h6
        go_wp2_with fail
        have hba := vbelow_new wr (.cells #[.int .i64 k', .int .i64 ta.kd, .bool y1, .int .i64 r1, .int .i64 x1, .string t1, .slice l1 n1 p1, .int .i64 tb.kd, .bool y2, .int .i64 r2, .int .i64 x2, .string t2, .slice l2 n2 p2, .bool oa', .bool ob', .slice ad' kk.length cp] 35)
        have hbw := bv (unhide HB) hba
        refine (unhide HU _ _ ty (d + 1) (MemS.mono hbw.size (MemS.below (hba.mono (unhide HB).size) (unhide HM))) (unhide HR)).mono ?_
        rintro e w2 ⟨rfl, hb2⟩
        have HB2 := hide (bv (bv (unhide HB0) hba) hb2)
        have HB3 := hide (bv hbw hb2)
        clear hb2 hba hbw HB HB0 HM HU HR c0 c1 c2 c3 c4 c5 c6 c7 c8 c9 c10 c11 c12 c13 c14 c15
        have H2 : Hid (fitsL ks ty = (fitsS (.mk k' ta tb oa' ob' kk) ty && fitsL (ks.drop (m + 1)) ty)) := hide (by rw [unhide H, fitsL])
        generalize fitsS (.mk k' ta tb oa' ob' kk) ty = F at *
        clear H
        cases F
        · have H3 : Hid (fitsL ks ty = false) := hide (by rw [unhide H2]; rfl)
          clear H2
          go_wp2
          go_ret
          rw [unhide H3]
          exact ⟨rfl, unhide HB3⟩
        · have H3 : Hid (fitsL ks ty = fitsL (ks.drop (m + 1)) ty) := hide (by rw [unhide H2]; rfl)
          clear H2
          go_wp2
          go_round
          case rel => exact ⟨m + 1, by omega, by go_num, H3, HB2⟩
          case measure => simp [intOf]; omega
    · obtain rfl : m = ks.length := by omega
      have H2 : Hid (fitsL ks ty = true) := by
        have h := unhide H
        rw [List.drop_length, fitsL] at h
        exact hide h
      go_wp2
      go_ret
      rw [unhide H2]
      exact ⟨rfl, unhide HB⟩

set_option maxRecDepth 100000 in
set_option maxHeartbeats 8000000 in
theorem FitsC_k9 (a b : Tree) (oa ob : Bool) (ks : List TS) (IH : ∀ u ∈ ks, FitsC u) : FitsC (.mk 9 a b oa ob ks) := by
  intro w q ty d hM hw
  rw [MemS] at hM
  obtain ⟨hkl, a0, a1, a2, a3, a4, a5, b0, b1, b2, b3, b4, b5, ad, cap, ha, hb, rfl, hks⟩ := hM
  have h4 : ¬ 4 < d := by
    intro h
    rw [ws_much h] at hw
    cases hw
  obtain rfl := ha.kd0
  rw [fitsS, if_neg (by decide), if_pos (by decide)]
  rw [ws_kids h4 (by decide)] at hw
  by_cases hn : ks.length < 1 ∨ 20 < ks.length
  · rw [if_pos hn] at hw; cases hw
  rw [if_neg hn] at hw
  obtain ⟨bl, off, rfl, hlt, hm⟩ := hks (by intro e; rw [e] at hn; simp at hn)
  have hm' := hide hm
  have IH' := hide IH
  have HW := hide (wrongSL0 hw)
  obtain ⟨W0, hW0⟩ : ∃ W0, W0 = (w.alloc (.cells #[.int .i64 9, .int .i64 a.kd, a1, a2, a3, a4, a5, b0, b1, b2, b3, b4, b5, .bool oa, .bool ob, .slice (some ⟨bl, off, none⟩) ks.length cap] 35)) := ⟨_, rfl⟩
  have NB : Hid (Below w.heap.size w W0) := hide (by rw [hW0]; exact vbelow_new _ _)
  clear hm IH hw ha hb hks
  go_enter Tryz.func67, Tryz.ntmps67
  go_wp2
  rw [← hW0]
  clear hW0
  go_loopw [17] (fun i wr => ∃ m : Nat, m ≤ ks.length ∧ i = .int .i64 (m : Int) ∧ Hid (fitsL ks ty = fitsL (ks.drop m) ty) ∧ Hid (Below W0.heap.size W0 wr)) (fun i _ => ks.length - (intOf i).toNat)
  case atStart => exact ⟨0, Nat.zero_le _, rfl, hide rfl, hide (Below.refl _ _)⟩
  case round =>
    obtain ⟨m, hml, rfl, H, HB0⟩ := hrel
    have HB := hide (bv (unhide NB) (unhide HB0))
    by_cases hlt2 : m < ks.length
    · have hi1 : (m : Int) < (ks.length : Int) := by omega
      obtain ⟨u, hu⟩ : ∃ u, ks[m]? = some u := ⟨_, List.getElem?_eq_getElem hlt2⟩
      have hdrop := sdrop_at hlt2 hu
      have HU := hide (unhide IH' u (List.mem_of_getElem? hu))
      have HR := hide (unhide HW u (List.mem_of_getElem? hu))
      obtain ⟨cs, h6, hmu⟩ := MemSL.at (MemSL.below (unhide HB) hlt (unhide hm')) m u hu
      have HM := hide hmu
      rw [hdrop] at H
      cases u with
      | mk k' ta tb oa' ob' kk =>
        rw [MemS] at hmu
        obtain ⟨_, d0, d1, d2, d3, d4, d5, e0, e1, e2, e3, e4, e5, ad', cp, hta, htb, rfl, _⟩ := hmu
        obtain ⟨y1, r1, x1, t1, l1, n1, p1, rfl, rfl, rfl, rfl, rfl, rfl⟩ := hta.six
        obtain ⟨y2, r2, x2, t2, l2, n2, p2, rfl, rfl, rfl, rfl, rfl, rfl⟩ := htb.six
        clear hta htb
        obtain ⟨c0, c1, c2, c3, c4, c5, c6, c7, c8, c9, c10, c11, c12, c13, c14, c15⟩ := h6.tell
        clear hu hdrop h6
        go_wp2_with fail
        have hba := vbelow_new wr (.cells #[.int .i64 k', .int .i64 ta.kd, .bool y1, .int .i64 r1, .int .i64 x1, .string t1, .slice l1 n1 p1, .int .i64 tb.kd, .bool y2, .int .i64 r2, .int .i64 x2, .string t2, .slice l2 n2 p2, .bool oa', .bool ob', .slice ad' kk.length cp] 35)
        have hbw := bv (unhide HB) hba
        refine (unhide HU _ _ ty (d + 1) (MemS.mono hbw.size (MemS.below (hba.mono (unhide HB).size) (unhide HM))) (unhide HR)).mono ?_
        rintro e w2 ⟨rfl, hb2⟩
        have HB2 := hide (bv (bv (unhide HB0) hba) hb2)
        have HB3 := hide (bv hbw hb2)
        clear hb2 hba hbw HB HB0 HM HU HR c0 c1 c2 c3 c4 c5 c6 c7 c8 c9 c10 c11 c12 c13 c14 c15
        have H2 : Hid (fitsL ks ty = (fitsS (.mk k' ta tb oa' ob' kk) ty && fitsL (ks.drop (m + 1)) ty)) := hide (by rw [unhide H, fitsL])
        generalize fitsS (.mk k' ta tb oa' ob' kk) ty = F at *
        clear H
        cases F
        · have H3 : Hid (fitsL ks ty = false) := hide (by rw [unhide H2]; rfl)
          clear H2
          go_wp2
          go_ret
          rw [unhide H3]
          exact ⟨rfl, unhide HB3⟩
        · have H3 : Hid (fitsL ks ty = fitsL (ks.drop (m + 1)) ty) := hide (by rw [unhide H2]; rfl)
          clear H2
          go_wp2
          go_round
          case rel => exact ⟨m + 1, by omega, by go_num, H3, HB2⟩
          case measure => simp [intOf]; omega
    · obtain rfl : m = ks.length := by omega
      have H2 : Hid (fitsL ks ty = true) := by
        have h := unhide H
        rw [List.drop_length, fitsL] at h
        exact hide h
      go_wp2
      go_ret
      rw [unhide H2]
      exact ⟨rfl, unhide HB⟩

set_option maxRecDepth 100000 in
set_option maxHeartbeats 8000000 in
theorem FitsC_of (k : Int) (a b : Tree) (oa ob : Bool) (ks : List TS) (IH : ∀ u ∈ ks, FitsC u) : FitsC (.mk k a b oa ob ks) := by
  intro w q ty d hM hw
  rw [MemS] at hM
  obtain ⟨hkl, a0, a1, a2, a3, a4, a5, b0, b1, b2, b3, b4, b5, ad, cap, ha, hb, rfl, hks⟩ := hM
  have h4 : ¬ 4 < d := by
    intro h
    rw [ws_much h] at hw
    cases hw
  have hk : ¬ (k < 1 ∨ 9 < k) := by
    intro h
    rw [ws_kind h4 h] at hw
    cases hw
  by_cases k1 : k = 1
  · subst k1
    rw [fitsS, if_pos rfl]
    clear IH hks ha hb
    go_enter Tryz.func67, Tryz.ntmps67
    go_wp2
    go_ret
    exact ⟨rfl, vbelow_new _ _⟩
  by_cases k8 : k = 8
  · subst k8
    exact FitsC_k8 a b oa ob ks IH w _ ty d (by rw [MemS]; exact ⟨hkl, _, _, _, _, _, _, _, _, _, _, _, _, ad, cap, ha, hb, rfl, hks⟩) hw
  by_cases k9 : k = 9
  · subst k9
    exact FitsC_k9 a b oa ob ks IH w _ ty d (by rw [MemS]; exact ⟨hkl, _, _, _, _, _, _, _, _, _, _, _, _, ad, cap, ha, hb, rfl, hks⟩) hw
  · obtain rfl := ha.kd0
    rw [fitsS, if_neg k1, if_neg (by omega)]
    have va : valW a = 0 := by
      by_cases k2 : k = 2
      · subst k2; rw [ws_is h4] at hw; exact hw
      by_cases k7 : k = 7
      · subst k7; rw [ws_in h4] at hw; exact (twoW0 hw).1
      · rw [ws_one h4 (by omega)] at hw; exact oneW0 hw
    exact tfits_leaf k (by omega) a.kd (valW_kd va) ty _ _ _ _ _ _ _ _ _ _ _ _ _ _ w

mutual
theorem FitsC_all : ∀ T : TS, FitsC T
  | .mk k a b oa ob ks => FitsC_of k a b oa ob ks (fun u h => FitsC_alls ks u h)
theorem FitsC_alls : ∀ (ks : List TS) (u : TS), u ∈ ks → FitsC u
  | [], u, h => by cases h
  | v :: vs, u, h => by
    by_cases e : u = v
    · rw [e]; exact FitsC_all v
    · exact FitsC_alls vs u ((List.mem_cons.1 h).resolve_left e)
end

end Go.Proofs.YtdkgapapdjefdaaGreatDoor

/- Walks: Does of any test and any value, Fits of a right test, as the program tells. -/
namespace Go.Proofs.YtdkgapapdjefdaaGreatDoor
open Go.RowKit

abbrev zeroA : Array Value := #[.int .i64 0, .bool false, .int .i64 0, .int .i64 0, .string ⟨#[]⟩, .slice none 0 0]

theorem boxes3 {w w1 : World} {s t u : TypeId} {a : Array Value} {b0 b1 b2 b3 b4 b5 c0 c1 c2 c3 c4 c5 : Value} (hb : Below (((w.alloc (.cells a s)).alloc (.cells #[b0, b1, b2, b3, b4, b5] t)).alloc (.cells #[c0, c1, c2, c3, c4, c5] u)).heap.size (((w.alloc (.cells a s)).alloc (.cells #[b0, b1, b2, b3, b4, b5] t)).alloc (.cells #[c0, c1, c2, c3, c4, c5] u)) w1) :
    B16 w1 w.heap.size a ∧ Box w1 (w.heap.size + 1) #[b0, b1, b2, b3, b4, b5] ∧ Box w1 (w.heap.size + 1 + 1) #[c0, c1, c2, c3, c4, c5] ∧ Below w.heap.size w w1 := by
  have B := (Box.new (w := w.alloc (.cells a s)) (t := t) (a0 := b0) (a1 := b1) (a2 := b2) (a3 := b3) (a4 := b4) (a5 := b5)).over.keep hb (by simp <;> omega)
  obtain ⟨C, D⟩ := box3g hb
  exact ⟨B16.new.over.over.keep hb (by simp; omega), by simpa using B, C, D⟩

set_option maxHeartbeats 4000000 in
theorem tDoes_wrong (T : TS) (q u : Array Value) (B : Nat) (w : World) (hB : B ≤ w.heap.size) (hM : MemS B w T q) (hu : ∃ u0 u1 u2 u3 u4 u5, u = #[u0, u1, u2, u3, u4, u5]) (hT : TabsIn B w) (hw : ¬ wrongS T 1 = 0) :
    Calls Tryz.prog 9 #[.agg q, .agg u] w fun e w' => e = .returned (.tuple #[.agg zeroA, .int .i64 (wrongS T 1)]) ∧ Below w.heap.size w w' := by
  have C := hide (fun wx (hb : Below w.heap.size w wx) => tWrong_any T q B wx (Nat.le_trans hB hb.size) (MemS.below (hb.mono hB) hM) (hT.below (hb.mono hB)))
  have hz : (wrongS T 1 != 0) = true := by simp [hw]
  generalize wrongS T 1 = W at *
  obtain ⟨k, a, b, oa, ob, ks⟩ := T
  rw [MemS] at hM
  obtain ⟨_, a0, a1, a2, a3, a4, a5, b0, b1, b2, b3, b4, b5, ad, cap, _, _, rfl, _⟩ := hM
  obtain ⟨u0, u1, u2, u3, u4, u5, rfl⟩ := hu
  clear hT hw
  go_enter Tryz.func9, Tryz.ntmps9
  go_wp2_with fail
  refine (unhide C _ (below3 _ _ _ _)).mono ?_
  rintro e w1 ⟨rfl, hb⟩
  obtain ⟨R, hw⟩ := box3g hb
  clear hb C
  obtain ⟨c0, c1, c2, c3, c4, c5⟩ := R.tell
  obtain ⟨f0, f1, f2, f3, f4, f5⟩ := R.thaw
  have lb := R.low
  go_wp2
  exact bodyPost_ret (v := .tuple #[.agg zeroA, .int .i64 W]) (by simp [results, Tryz.results9, go_sem, c0, c1, c2, c3, c4, c5]) rfl ⟨rfl, below_put6 hw (by omega)⟩

set_option maxHeartbeats 4000000 in
theorem tDoes_val (T : TS) (v : Tree) (q u : Array Value) (B : Nat) (w : World) (hB : B ≤ w.heap.size) (hM : MemS B w T q) (Mv : Mem B w v u) (hT : TabsIn B w) (hw : wrongS T 1 = 0) :
    Calls Tryz.prog 9 #[.agg q, .agg u] w fun e w' => e = .returned (.tuple #[.agg (if (wrongF v 0 1).1 = 0 then #[.int .i64 (kd (doesS T v)), .bool (yd (doesS T v)), .int .i64 0, .int .i64 0, .string ⟨#[]⟩, .slice none 0 0] else zeroA), .int .i64 (wrongF v 0 1).1]) ∧ Below w.heap.size w w' := by
  have C := hide (fun wx (hb : Below w.heap.size w wx) => tWrong_any T q B wx (Nat.le_trans hB hb.size) (MemS.below (hb.mono hB) hM) (hT.below (hb.mono hB)))
  have L := hide (fun wx (hb : Below w.heap.size w wx) => logicWrong_any v u B wx (Nat.le_trans hB hb.size) (Mem.below (hb.mono hB) Mv) (hT.below (hb.mono hB)))
  have K := hide (fun (hv : (wrongF v 0 1).1 = 0) wx (hb : Below w.heap.size w wx) => does_all T v wx q u 1 (MemS.mono (Nat.le_trans hB hb.size) (MemS.below (hb.mono hB) hM)) (Mem.mono (Nat.le_trans hB hb.size) (Mem.below (hb.mono hB) Mv)) hw hv)
  rw [hw] at C
  generalize doesS T v = n at *
  generalize (wrongF v 0 1).1 = F at *
  obtain ⟨u0, u1, u2, u3, u4, u5, rfl⟩ := Mv.arr
  obtain ⟨k, a, b, oa, ob, ks⟩ := T
  rw [MemS] at hM
  obtain ⟨_, a0, a1, a2, a3, a4, a5, b0, b1, b2, b3, b4, b5, ad, cap, _, _, rfl, _⟩ := hM
  clear hT hw Mv
  by_cases hF : F = 0
  · rw [if_pos hF]
    subst hF
    go_enter Tryz.func9, Tryz.ntmps9
    go_wp2_with fail
    refine (unhide C _ (below3 _ _ _ _)).mono ?_
    rintro e w1 ⟨rfl, hb⟩
    have H1 := hide hb
    obtain ⟨X, Y, _, hw1⟩ := boxes3 hb
    obtain ⟨z0, z1, z2, z3, z4, z5⟩ := Y.tell
    have HW := hide hw1
    clear hb C X Y hw1
    go_wp2_with fail
    refine (unhide L _ (unhide HW)).mono ?_
    rintro e w2 ⟨rfl, hb⟩
    have H2 := hide ((unhide H1).trans (hb.mono (unhide H1).size))
    obtain ⟨X, Y, _, hw2⟩ := boxes3 (unhide H2)
    clear hb L z0 z1 z2 z3 z4 z5 HW H1
    have HW := hide hw2
    obtain ⟨z0, z1, z2, z3, z4, z5⟩ := Y.tell
    obtain ⟨x0, x1, x2, x3, x4, x5, x6, x7, x8, x9, x10, x11, x12, x13, x14, x15⟩ := X.tell
    clear X Y hw2
    go_wp2_with fail
    refine (unhide K (by trivial) _ (unhide HW)).mono ?_
    rintro e w3 ⟨rfl, hb⟩
    obtain ⟨R, hw3⟩ := box3g ((unhide H2).trans (hb.mono (unhide H2).size))
    clear hb H2 K HW z0 z1 z2 z3 z4 z5 x0 x1 x2 x3 x4 x5 x6 x7 x8 x9 x10 x11 x12 x13 x14 x15
    obtain ⟨c0, c1, c2, c3, c4, c5⟩ := R.tell
    obtain ⟨f0, f1, f2, f3, f4, f5⟩ := R.thaw
    have lb := R.low
    go_wp2
    exact bodyPost_ret (v := .tuple #[told n, .int .i64 0]) (by simp [results, Tryz.results9, go_sem, c0, c1, c2, c3, c4, c5]) rfl ⟨rfl, below_put6 hw3 (by omega)⟩
  · rw [if_neg hF]
    have hF' : (F != 0) = true := by simp [hF]
    clear K
    go_enter Tryz.func9, Tryz.ntmps9
    go_wp2_with fail
    refine (unhide C _ (below3 _ _ _ _)).mono ?_
    rintro e w1 ⟨rfl, hb⟩
    have H1 := hide hb
    obtain ⟨X, Y, _, hw1⟩ := boxes3 hb
    obtain ⟨z0, z1, z2, z3, z4, z5⟩ := Y.tell
    have HW := hide hw1
    clear hb C X Y hw1
    go_wp2_with fail
    refine (unhide L _ (unhide HW)).mono ?_
    rintro e w2 ⟨rfl, hb⟩
    obtain ⟨R, hw3⟩ := box3g ((unhide H1).trans (hb.mono (unhide H1).size))
    clear hb L z0 z1 z2 z3 z4 z5 HW H1
    obtain ⟨c0, c1, c2, c3, c4, c5⟩ := R.tell
    obtain ⟨f0, f1, f2, f3, f4, f5⟩ := R.thaw
    have lb := R.low
    go_wp2
    exact bodyPost_ret (v := .tuple #[.agg zeroA, .int .i64 F]) (by simp [results, Tryz.results9, go_sem, c0, c1, c2, c3, c4, c5]) rfl ⟨rfl, below_put6 hw3 (by omega)⟩

set_option maxHeartbeats 4000000 in
theorem tFits_any (T : TS) (q : Array Value) (ty : Int) (sv : Value) (B : Nat) (w : World) (hB : B ≤ w.heap.size) (hM : MemS B w T q) (hT : TabsIn B w) (hw : wrongS T 1 = 0) :
    Calls Tryz.prog 30 #[.agg q, .agg #[.int .i64 ty, sv]] w fun e w' => e = .returned (.bool (fitsS T ty)) ∧ Below w.heap.size w w' := by
  have C := hide (fun wx (hb : Below w.heap.size w wx) => tWrong_any T q B wx (Nat.le_trans hB hb.size) (MemS.below (hb.mono hB) hM) (hT.below (hb.mono hB)))
  have K := hide (fun wx (hb : Below w.heap.size w wx) => FitsC_all T wx q ty 1 (MemS.mono (Nat.le_trans hB hb.size) (MemS.below (hb.mono hB) hM)) hw)
  rw [hw] at C
  generalize fitsS T ty = F at *
  obtain ⟨k, a, b, oa, ob, ks⟩ := T
  rw [MemS] at hM
  obtain ⟨_, a0, a1, a2, a3, a4, a5, b0, b1, b2, b3, b4, b5, ad, cap, _, _, rfl, _⟩ := hM
  clear hT hw
  go_enter Tryz.func30, Tryz.ntmps30
  go_wp2_with fail
  refine (unhide C _ (bv (vbelow_new _ _) (vbelow_new _ _))).mono ?_
  rintro e w1 ⟨rfl, hb⟩
  have HW := hide (bv (bv (vbelow_new _ _) (vbelow_new _ _)) hb)
  obtain ⟨x0, x1, x2, x3, x4, x5, x6, x7, x8, x9, x10, x11, x12, x13, x14, x15⟩ := (B16.new.over.keep hb (by simp; omega)).tell
  have Y : B16 w1 (w.heap.size + 1) #[.int .i64 ty, sv] := by
    have := (B16.new (w := w.alloc (.cells #[.int .i64 k, a0, a1, a2, a3, a4, a5, b0, b1, b2, b3, b4, b5, .bool oa, .bool ob, .slice ad ks.length cap] 35)) (t := 68) (u := #[.int .i64 ty, sv])).keep hb (by simp)
    simpa using this
  have y0 := Y.cell 0 _ rfl
  clear hb C Y
  go_wp2_with fail
  refine (unhide K _ (unhide HW)).mono ?_
  rintro e w2 ⟨rfl, hb⟩
  have H2 := hide (bv (unhide HW) hb)
  clear hb HW K x0 x1 x2 x3 x4 x5 x6 x7 x8 x9 x10 x11 x12 x13 x14 x15 y0
  go_wp2
  go_ret
  exact ⟨rfl, unhide H2⟩
end Go.Proofs.YtdkgapapdjefdaaGreatDoor

/- wrongAsked: what is wrong with what is asked of points. -/
namespace Go.Proofs.YtdkgapapdjefdaaGreatDoor
open Go.RowKit

/-- a list of tests, in memory below B -/
def SlT (B : Nat) (w : World) (ts : List TS) (v : Value) : Prop := ts.length ≤ 9223372036854775807 ∧ ∃ (ad : Option Addr) (cap : Nat), v = .slice ad ts.length cap ∧ (ts ≠ [] → ∃ bl off, ad = some ⟨bl, off, none⟩ ∧ bl < B ∧ MemSL B w ts bl off)
theorem SlT.below {B : Nat} {w w' : World} {ts : List TS} {v : Value} (h : SlT B w ts v) (hb : Below B w w') : SlT B w' ts v := by
  obtain ⟨h1, ad, cap, e, h2⟩ := h
  refine ⟨h1, ad, cap, e, fun hne => ?_⟩
  obtain ⟨bl, off, a, b, c⟩ := h2 hne
  exact ⟨bl, off, a, b, MemSL.below hb b c⟩
theorem SlT.mono {B B' : Nat} {w : World} {ts : List TS} {v : Value} (h : SlT B w ts v) (hB : B ≤ B') : SlT B' w ts v := by
  obtain ⟨h1, ad, cap, e, h2⟩ := h
  refine ⟨h1, ad, cap, e, fun hne => ?_⟩
  obtain ⟨bl, off, a, b, c⟩ := h2 hne
  exact ⟨bl, off, a, Nat.lt_of_lt_of_le b hB, MemSL.mono hB c⟩

def askL (kind : Int) : List TS → Int
  | [] => 0
  | u :: us => if wrongS u 1 = 0 then (if fitsS u kind = true then askL kind us else 9) else wrongS u 1
def kindOk (kind : Int) : Prop := kind = 2 ∨ kind = 3 ∨ kind = 4
instance (kind : Int) : Decidable (kindOk kind) := by unfold kindOk; infer_instance
def askW (kind : Int) (ts : List TS) : Int := if kindOk kind then (if 20 < ts.length then 5 else askL kind ts) else 1

theorem askL_no {kind : Int} {u : TS} {us : List TS} (h : ¬ wrongS u 1 = 0) : askL kind (u :: us) = wrongS u 1 := by rw [askL, if_neg h]
theorem askL_un {kind : Int} {u : TS} {us : List TS} (h : wrongS u 1 = 0) (hf : fitsS u kind = false) : askL kind (u :: us) = 9 := by rw [askL, if_pos h, if_neg (by rw [hf]; decide)]
theorem askL_ok {kind : Int} {u : TS} {us : List TS} (h : wrongS u 1 = 0) (hf : fitsS u kind = true) : askL kind (u :: us) = askL kind us := by rw [askL, if_pos h, if_pos hf]

set_option maxRecDepth 100000 in
set_option maxHeartbeats 4000000 in
theorem asked_kind (kind : Int) (v : Value) (w : World) (h : ¬ kindOk kind) :
    Calls Tryz.prog 13 #[.int .i64 kind, v] w fun e w' => e = .returned (.int .i64 1) ∧ Below w.heap.size w w' := by
  unfold kindOk at h
  have k2 : (kind != 2) = true := by simp; omega
  have k3 : (kind != 3) = true := by simp; omega
  have k4 : (kind != 4) = true := by simp; omega
  clear h
  go_enter Tryz.func13, Tryz.ntmps13
  go_wp2
  go_ret
  exact ⟨rfl, Below.refl _ _⟩
end Go.Proofs.YtdkgapapdjefdaaGreatDoor

/- wrongAsked of the kind 2. -/
namespace Go.Proofs.YtdkgapapdjefdaaGreatDoor
open Go.RowKit

set_option maxRecDepth 100000 in
set_option maxHeartbeats 8000000 in
theorem asked_much2 (ts : List TS) (ad : Option Addr) (cap : Nat) (w : World) (h20 : 20 < ts.length) :
    Calls Tryz.prog 13 #[.int .i64 2, .slice ad ts.length cap] w fun e w' => e = .returned (.int .i64 5) ∧ Below w.heap.size w w' := by
  have h20' : (20 : Int) < (ts.length : Int) := by omega
  go_enter Tryz.func13, Tryz.ntmps13
  go_wp2
  go_ret
  exact ⟨rfl, Below.refl _ _⟩

set_option maxRecDepth 100000 in
set_option maxHeartbeats 8000000 in
theorem asked_2 (ts : List TS) (v : Value) (B : Nat) (w : World) (hB : B ≤ w.heap.size) (hv : SlT B w ts v) (hT : TabsIn B w) (h20 : ¬ 20 < ts.length) :
    Calls Tryz.prog 13 #[.int .i64 2, v] w fun e w' => e = .returned (.int .i64 (askL 2 ts)) ∧ Below w.heap.size w w' := by
  obtain ⟨hl, ad, cap, rfl, hm⟩ := hv
  have hm' := hide hm
  have W := hide (fun (T : TS) (q : Array Value) wx (hb : Below w.heap.size w wx) (hM : MemS B wx T q) => tWrong_any T q B wx (Nat.le_trans hB hb.size) hM (hT.below (hb.mono hB)))
  have F := hide (fun (T : TS) (q : Array Value) wx (hb : Below w.heap.size w wx) (hM : MemS B wx T q) (h0 : wrongS T 1 = 0) => tFits_any T q 2 (.slice none 0 0) B wx (Nat.le_trans hB hb.size) hM (hT.below (hb.mono hB)) h0)
  clear hT hm
  have h20' : ¬ (20 : Int) < (ts.length : Int) := by omega
  go_enter Tryz.func13, Tryz.ntmps13
  go_wp2
  go_loopw [23] (fun i wr => ∃ m : Nat, m ≤ ts.length ∧ i = .int .i64 (m : Int) ∧ Hid (askL 2 ts = askL 2 (ts.drop m)) ∧ Hid (Below w.heap.size w wr)) (fun i _ => ts.length - (intOf i).toNat)
  case atStart => exact ⟨0, Nat.zero_le _, rfl, hide rfl, hide (Below.refl _ _)⟩
  case round =>
    obtain ⟨m, hml, rfl, H, HB⟩ := hrel
    by_cases hlt2 : m < ts.length
    · have hi1 : (m : Int) < (ts.length : Int) := by omega
      obtain ⟨u, hu⟩ : ∃ u, ts[m]? = some u := ⟨_, List.getElem?_eq_getElem hlt2⟩
      obtain ⟨bl, off, rfl, hlt, hm⟩ := unhide hm' (by rintro rfl; simp at hlt2)
      have hdrop := sdrop_at hlt2 hu
      rw [hdrop] at H
      obtain ⟨cs, h6, hmu⟩ := MemSL.at (MemSL.below ((unhide HB).mono hB) hlt hm) m u hu
      have HMu := hide hmu
      have hwr : w.heap.size ≤ wr.heap.size := (unhide HB).size
      obtain ⟨U, hU⟩ : ∃ U, U = u := ⟨_, rfl⟩
      cases u with
      | mk k' ta tb oa' ob' kk =>
        rw [MemS] at hmu
        obtain ⟨_, d0, d1, d2, d3, d4, d5, e0, e1, e2, e3, e4, e5, ad', cp, hta, htb, rfl, _⟩ := hmu
        obtain ⟨y3, r3, x3, t3, l3, n3, p3, rfl, rfl, rfl, rfl, rfl, rfl⟩ := hta.six
        obtain ⟨y4, r4, x4, t4, l4, n4, p4, rfl, rfl, rfl, rfl, rfl, rfl⟩ := htb.six
        clear hta htb
        obtain ⟨c0, c1, c2, c3, c4, c5, c6, c7, c8, c9, c10, c11, c12, c13, c14, c15⟩ := h6.tell
        clear hu h6 hm hdrop
        rw [← hU] at H HMu
        clear hU
        go_wp2_with fail
        have hba := vbelow_new wr (.cells #[.int .i64 k', .int .i64 ta.kd, .bool y3, .int .i64 r3, .int .i64 x3, .string t3, .slice l3 n3 p3, .int .i64 tb.kd, .bool y4, .int .i64 r4, .int .i64 x4, .string t4, .slice l4 n4 p4, .bool oa', .bool ob', .slice ad' kk.length cp] 35)
        have B0 := B16.new (w := wr) (t := 35) (u := #[.int .i64 k', .int .i64 ta.kd, .bool y3, .int .i64 r3, .int .i64 x3, .string t3, .slice l3 n3 p3, .int .i64 tb.kd, .bool y4, .int .i64 r4, .int .i64 x4, .string t4, .slice l4 n4 p4, .bool oa', .bool ob', .slice ad' kk.length cp])
        refine (unhide W _ _ _ (bv (unhide HB) hba) (MemS.below (hba.mono (by omega)) (unhide HMu))).mono ?_
        rintro e w2 ⟨rfl, hb2⟩
        have HB2 := hide (bv (bv (unhide HB) hba) hb2)
        have HM2 := hide (MemS.below (hb2.mono (by simp; omega)) (MemS.below (hba.mono (by omega)) (unhide HMu)))
        have B1 := B0.keep hb2 (by simp)
        obtain ⟨f0, f1, f2, f3, f4, f5, f6, f7, f8, f9, f10, f11, f12, f13, f14, f15⟩ := B1.tell
        have hz2 : wr.heap.size < w2.heap.size := by have := hb2.size; simp at this; omega
        clear hb2 hba HB HMu B0 B1 c0 c1 c2 c3 c4 c5 c6 c7 c8 c9 c10 c11 c12 c13 c14 c15
        by_cases hw : wrongS U 1 = 0
        · have F1 := hide (fun wx (hb : Below w2.heap.size w2 wx) => unhide F U _ wx (bv (unhide HB2) hb) (MemS.below (hb.mono (Nat.le_trans hB (unhide HB2).size)) (unhide HM2)) hw)
          have hw1 : (wrongS U 1 != 0) = false := by simp [hw]
          have HW := hide hw
          rw [hw]
          clear hw hw1
          go_wp2_with fail
          refine (unhide F1 _ (Below.refl _ _)).mono ?_
          rintro e w3 ⟨rfl, hb3⟩
          have HB3 := hide (bv (unhide HB2) hb3)
          clear hb3 F1 HB2 HM2 f0 f1 f2 f3 f4 f5 f6 f7 f8 f9 f10 f11 f12 f13 f14 f15
          by_cases hf : fitsS U 2 = true
          · have H2 := hide ((unhide H).trans (askL_ok (unhide HW) hf))
            rw [hf]
            clear hf H
            go_wp2
            go_roundw
            case rel => exact ⟨m + 1, by omega, by go_num, H2, HB3⟩
            case measure => simp [intOf]; omega
          · rw [Bool.not_eq_true] at hf
            have H2 := hide ((unhide H).trans (askL_un (unhide HW) hf))
            rw [hf]
            clear hf H
            go_wp2
            go_ret
            rw [unhide H2]
            exact ⟨rfl, unhide HB3⟩
        · have hw1 : (wrongS U 1 != 0) = true := by simp [hw]
          have H2 := hide ((unhide H).trans (askL_no hw))
          clear hw H
          go_wp2
          go_ret
          rw [unhide H2]
          exact ⟨rfl, unhide HB2⟩
    · obtain rfl : m = ts.length := by omega
      have H2 := hide ((unhide H).trans (by rw [List.drop_length, askL]))
      go_wp2
      go_ret
      rw [unhide H2]
      exact ⟨rfl, unhide HB⟩
end Go.Proofs.YtdkgapapdjefdaaGreatDoor

/- wrongAsked of the kind 3. -/
namespace Go.Proofs.YtdkgapapdjefdaaGreatDoor
open Go.RowKit

set_option maxRecDepth 100000 in
set_option maxHeartbeats 8000000 in
theorem asked_much3 (ts : List TS) (ad : Option Addr) (cap : Nat) (w : World) (h20 : 20 < ts.length) :
    Calls Tryz.prog 13 #[.int .i64 3, .slice ad ts.length cap] w fun e w' => e = .returned (.int .i64 5) ∧ Below w.heap.size w w' := by
  have h20' : (20 : Int) < (ts.length : Int) := by omega
  go_enter Tryz.func13, Tryz.ntmps13
  go_wp2
  go_ret
  exact ⟨rfl, Below.refl _ _⟩

set_option maxRecDepth 100000 in
set_option maxHeartbeats 8000000 in
theorem asked_3 (ts : List TS) (v : Value) (B : Nat) (w : World) (hB : B ≤ w.heap.size) (hv : SlT B w ts v) (hT : TabsIn B w) (h20 : ¬ 20 < ts.length) :
    Calls Tryz.prog 13 #[.int .i64 3, v] w fun e w' => e = .returned (.int .i64 (askL 3 ts)) ∧ Below w.heap.size w w' := by
  obtain ⟨hl, ad, cap, rfl, hm⟩ := hv
  have hm' := hide hm
  have W := hide (fun (T : TS) (q : Array Value) wx (hb : Below w.heap.size w wx) (hM : MemS B wx T q) => tWrong_any T q B wx (Nat.le_trans hB hb.size) hM (hT.below (hb.mono hB)))
  have F := hide (fun (T : TS) (q : Array Value) wx (hb : Below w.heap.size w wx) (hM : MemS B wx T q) (h0 : wrongS T 1 = 0) => tFits_any T q 3 (.slice none 0 0) B wx (Nat.le_trans hB hb.size) hM (hT.below (hb.mono hB)) h0)
  clear hT hm
  have h20' : ¬ (20 : Int) < (ts.length : Int) := by omega
  go_enter Tryz.func13, Tryz.ntmps13
  go_wp2
  go_loopw [23] (fun i wr => ∃ m : Nat, m ≤ ts.length ∧ i = .int .i64 (m : Int) ∧ Hid (askL 3 ts = askL 3 (ts.drop m)) ∧ Hid (Below w.heap.size w wr)) (fun i _ => ts.length - (intOf i).toNat)
  case atStart => exact ⟨0, Nat.zero_le _, rfl, hide rfl, hide (Below.refl _ _)⟩
  case round =>
    obtain ⟨m, hml, rfl, H, HB⟩ := hrel
    by_cases hlt2 : m < ts.length
    · have hi1 : (m : Int) < (ts.length : Int) := by omega
      obtain ⟨u, hu⟩ : ∃ u, ts[m]? = some u := ⟨_, List.getElem?_eq_getElem hlt2⟩
      obtain ⟨bl, off, rfl, hlt, hm⟩ := unhide hm' (by rintro rfl; simp at hlt2)
      have hdrop := sdrop_at hlt2 hu
      rw [hdrop] at H
      obtain ⟨cs, h6, hmu⟩ := MemSL.at (MemSL.below ((unhide HB).mono hB) hlt hm) m u hu
      have HMu := hide hmu
      have hwr : w.heap.size ≤ wr.heap.size := (unhide HB).size
      obtain ⟨U, hU⟩ : ∃ U, U = u := ⟨_, rfl⟩
      cases u with
      | mk k' ta tb oa' ob' kk =>
        rw [MemS] at hmu
        obtain ⟨_, d0, d1, d2, d3, d4, d5, e0, e1, e2, e3, e4, e5, ad', cp, hta, htb, rfl, _⟩ := hmu
        obtain ⟨y3, r3, x3, t3, l3, n3, p3, rfl, rfl, rfl, rfl, rfl, rfl⟩ := hta.six
        obtain ⟨y4, r4, x4, t4, l4, n4, p4, rfl, rfl, rfl, rfl, rfl, rfl⟩ := htb.six
        clear hta htb
        obtain ⟨c0, c1, c2, c3, c4, c5, c6, c7, c8, c9, c10, c11, c12, c13, c14, c15⟩ := h6.tell
        clear hu h6 hm hdrop
        rw [← hU] at H HMu
        clear hU
        go_wp2_with fail
        have hba := vbelow_new wr (.cells #[.int .i64 k', .int .i64 ta.kd, .bool y3, .int .i64 r3, .int .i64 x3, .string t3, .slice l3 n3 p3, .int .i64 tb.kd, .bool y4, .int .i64 r4, .int .i64 x4, .string t4, .slice l4 n4 p4, .bool oa', .bool ob', .slice ad' kk.length cp] 35)
        have B0 := B16.new (w := wr) (t := 35) (u := #[.int .i64 k', .int .i64 ta.kd, .bool y3, .int .i64 r3, .int .i64 x3, .string t3, .slice l3 n3 p3, .int .i64 tb.kd, .bool y4, .int .i64 r4, .int .i64 x4, .string t4, .slice l4 n4 p4, .bool oa', .bool ob', .slice ad' kk.length cp])
        refine (unhide W _ _ _ (bv (unhide HB) hba) (MemS.below (hba.mono (by omega)) (unhide HMu))).mono ?_
        rintro e w2 ⟨rfl, hb2⟩
        have HB2 := hide (bv (bv (unhide HB) hba) hb2)
        have HM2 := hide (MemS.below (hb2.mono (by simp; omega)) (MemS.below (hba.mono (by omega)) (unhide HMu)))
        have B1 := B0.keep hb2 (by simp)
        obtain ⟨f0, f1, f2, f3, f4, f5, f6, f7, f8, f9, f10, f11, f12, f13, f14, f15⟩ := B1.tell
        have hz2 : wr.heap.size < w2.heap.size := by have := hb2.size; simp at this; omega
        clear hb2 hba HB HMu B0 B1 c0 c1 c2 c3 c4 c5 c6 c7 c8 c9 c10 c11 c12 c13 c14 c15
        by_cases hw : wrongS U 1 = 0
        · have F1 := hide (fun wx (hb : Below w2.heap.size w2 wx) => unhide F U _ wx (bv (unhide HB2) hb) (MemS.below (hb.mono (Nat.le_trans hB (unhide HB2).size)) (unhide HM2)) hw)
          have hw1 : (wrongS U 1 != 0) = false := by simp [hw]
          have HW := hide hw
          rw [hw]
          clear hw hw1
          go_wp2_with fail
          refine (unhide F1 _ (Below.refl _ _)).mono ?_
          rintro e w3 ⟨rfl, hb3⟩
          have HB3 := hide (bv (unhide HB2) hb3)
          clear hb3 F1 HB2 HM2 f0 f1 f2 f3 f4 f5 f6 f7 f8 f9 f10 f11 f12 f13 f14 f15
          by_cases hf : fitsS U 3 = true
          · have H2 := hide ((unhide H).trans (askL_ok (unhide HW) hf))
            rw [hf]
            clear hf H
            go_wp2
            go_roundw
            case rel => exact ⟨m + 1, by omega, by go_num, H2, HB3⟩
            case measure => simp [intOf]; omega
          · rw [Bool.not_eq_true] at hf
            have H2 := hide ((unhide H).trans (askL_un (unhide HW) hf))
            rw [hf]
            clear hf H
            go_wp2
            go_ret
            rw [unhide H2]
            exact ⟨rfl, unhide HB3⟩
        · have hw1 : (wrongS U 1 != 0) = true := by simp [hw]
          have H2 := hide ((unhide H).trans (askL_no hw))
          clear hw H
          go_wp2
          go_ret
          rw [unhide H2]
          exact ⟨rfl, unhide HB2⟩
    · obtain rfl : m = ts.length := by omega
      have H2 := hide ((unhide H).trans (by rw [List.drop_length, askL]))
      go_wp2
      go_ret
      rw [unhide H2]
      exact ⟨rfl, unhide HB⟩
end Go.Proofs.YtdkgapapdjefdaaGreatDoor
