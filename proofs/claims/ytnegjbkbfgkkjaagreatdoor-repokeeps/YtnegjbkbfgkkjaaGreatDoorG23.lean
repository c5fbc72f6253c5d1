/- Walks: what is wrong with values that others are less or more than, as the program tells. -/
import Derived.Test.YtnegjbkbfgkkjaaGreatDoorG22
namespace Go.Proofs.YtnegjbkbfgkkjaaGreatDoor
open Go.RowKit

def firstW : List Tree → Int
  | [] => 0
  | u :: us => if valW u = 0 then firstW us else valW u
def kindsW (k : Int) : List Tree → Int
  | [] => 0
  | u :: us => if u.kd = k then kindsW k us else 9
theorem firstW_ok {u : Tree} {us : List Tree} (h : valW u = 0) : firstW (u :: us) = firstW us := by rw [firstW, if_pos h]
theorem firstW_no {u : Tree} {us : List Tree} (h : ¬ valW u = 0) : firstW (u :: us) = valW u := by rw [firstW, if_neg h]
theorem kindsW_ok {k : Int} {u : Tree} {us : List Tree} (h : u.kd = k) : kindsW k (u :: us) = kindsW k us := by rw [kindsW, if_pos h]
theorem kindsW_no {k : Int} {u : Tree} {us : List Tree} (h : ¬ u.kd = k) : kindsW k (u :: us) = 9 := by rw [kindsW, if_neg h]
/-- what is wrong with such values, the first of which is of kind k -/
def boundsW (k : Int) (l : List Tree) : Int := if firstW l = 0 then (if k = 3 ∨ k = 4 then kindsW k l else 9) else firstW l
theorem oneW_is (a : Tree) : boundsW a.kd [a] = oneW a := by
  unfold boundsW oneW
  simp only [firstW, kindsW, if_true]
  split <;> simp_all
theorem twoW_is (a b : Tree) : boundsW a.kd [a, b] = twoW a b := by
  unfold boundsW twoW
  simp only [firstW, kindsW, if_true]
  split <;> (try split) <;> simp_all

set_option maxHeartbeats 4000000 in
theorem bounds_any (k0 : Int) (l : List Tree) (w : World) (B p : Nat) (c0 : w.cell? ⟨p, 0, none⟩ = some (.int .i64 k0)) (hB : B ≤ w.heap.size) (hp : p < B) (hm : MemL B w l p 0) (hne : 0 < l.length) (hl : l.length ≤ 2) (hT : TabsIn B w) :
    Calls Tryz.prog 104 #[.slice (some ⟨p, 0, none⟩) l.length l.length] w fun e w' => e = .returned (.int .i64 (boundsW k0 l)) ∧ Below w.heap.size w w' := by
  have VA := hide (fun (T : Tree) (v : Array Value) (wx : World) (hb : Below w.heap.size w wx) (hM : Mem B wx T v) => wrongValue_any T v B wx (Nat.le_trans hB hb.size) hM (hT.below (hb.mono hB)))
  have hm' := hide hm
  have C0 := hide c0
  clear hm hT c0
  go_enter Tryz.func104, Tryz.ntmps104
  go_wp2
  go_loopw [11] (fun i wr => ∃ m : Nat, m ≤ l.length ∧ i = .int .i64 (m : Int) ∧ Hid (firstW l = firstW (l.drop m)) ∧ Hid (Below w.heap.size w wr)) (fun i _ => l.length - (intOf i).toNat)
  case atStart => exact ⟨0, Nat.zero_le _, rfl, hide rfl, hide (Below.refl _ _)⟩
  case round =>
    obtain ⟨m, hml, rfl, H, HB⟩ := hrel
    by_cases hlt2 : m < l.length
    · have hi1 : (m : Int) < (l.length : Int) := by omega
      obtain ⟨u, hu⟩ : ∃ u, l[m]? = some u := ⟨_, List.getElem?_eq_getElem hlt2⟩
      have hdrop := tdrop_at hlt2 hu
      obtain ⟨cs, h6, hmu⟩ := MemL.at (MemL.below ((unhide HB).mono hB) hp (unhide hm')) m u hu
      have HM := hide hmu
      rw [hdrop] at H
      cases u with
      | mk k y c x t kk =>
        rw [Mem] at hmu
        obtain ⟨ht, hk, a', cap', rfl, _⟩ := hmu
        obtain ⟨u0, u1, u2, u3, u4, u5, hu6, c0, c1, c2, c3, c4, c5⟩ := h6
        simp only [Array.mk.injEq, List.cons.injEq, and_true] at hu6
        obtain ⟨rfl, rfl, rfl, rfl, rfl, rfl⟩ := hu6
        rw [Nat.zero_add] at c0 c1 c2 c3 c4 c5
        clear hu hdrop ht hk
        go_wp2_with fail
        have hba := vbelow_new wr (.cells #[.int .i64 k, .bool y, .int .i64 c, .int .i64 x, .string t, .slice a' kk.length cap'] 81)
        have hbw := bv (unhide HB) hba
        refine (unhide VA _ _ _ hbw (Mem.below (hba.mono (Nat.le_trans hB (unhide HB).size)) (unhide HM))).mono ?_
        rintro e w2 ⟨rfl, hb2⟩
        have HB2 := hide (bv hbw hb2)
        clear hb2 hba hbw HB HM
        by_cases hr : valW (.mk k y c x t kk) = 0
        · have hz : (valW (.mk k y c x t kk) != 0) = false := by simp [hr]
          have H2 := hide ((unhide H).trans (firstW_ok (us := l.drop (m + 1)) hr))
          generalize valW (.mk k y c x t kk) = R at *
          clear hr H
          go_wp2
          go_round
          case rel => exact ⟨m + 1, by omega, by go_num, H2, HB2⟩
          case measure => simp [intOf]; omega
        · have hz : (valW (.mk k y c x t kk) != 0) = true := by simp [hr]
          have H2 := hide ((unhide H).trans (firstW_no (us := l.drop (m + 1)) hr))
          have H3 : Hid (boundsW k0 l = valW (.mk k y c x t kk)) := hide (by unfold boundsW; rw [unhide H2, if_neg hr])
          generalize valW (.mk k y c x t kk) = R at *
          clear hr H H2
          go_wp2
          go_ret
          rw [unhide H3]
          exact ⟨rfl, unhide HB2⟩
    · obtain rfl : m = l.length := by omega
      have H2 : Hid (firstW l = 0) := by
        have h := unhide H
        rw [List.drop_length, firstW] at h
        exact hide h
      have c0 := ((unhide HB).cell (p := ⟨p, 0, none⟩) (Nat.lt_of_lt_of_le hp hB)).trans (unhide C0)
      by_cases hk : k0 = 3 ∨ k0 = 4
      · have H3 : Hid (boundsW k0 l = kindsW k0 l) := hide (by unfold boundsW; rw [unhide H2, if_pos rfl, if_pos hk])
        have hk3 : (k0 != 3 && k0 != 4) = false := by rcases hk with rfl | rfl <;> decide
        have HK := hide hk
        clear H2 H
        rcases hk with rfl | rfl
        · go_wp2
          go_loopw [33] (fun i wq => ∃ m : Nat, m ≤ l.length ∧ i = .int .i64 (m : Int) ∧ Hid (kindsW 3 l = kindsW 3 (l.drop m)) ∧ Hid (Below w.heap.size w wq)) (fun i _ => l.length - (intOf i).toNat)
          case atStart => exact ⟨0, Nat.zero_le _, rfl, hide rfl, HB⟩
          case round =>
            obtain ⟨m, hml, rfl, H, HB⟩ := hrel
            clear c0
            by_cases hlt2 : m < l.length
            · have hi1 : (m : Int) < (l.length : Int) := by omega
              obtain ⟨u, hu⟩ : ∃ u, l[m]? = some u := ⟨_, List.getElem?_eq_getElem hlt2⟩
              have hdrop := tdrop_at hlt2 hu
              obtain ⟨cs, h6, hmu⟩ := MemL.at (MemL.below ((unhide HB).mono hB) hp (unhide hm')) m u hu
              rw [hdrop] at H
              cases u with
              | mk k y c x t kk =>
                rw [Mem] at hmu
                obtain ⟨ht, hk, a', cap', rfl, _⟩ := hmu
                obtain ⟨u0, u1, u2, u3, u4, u5, hu6, c0, c1, c2, c3, c4, c5⟩ := h6
                simp only [Array.mk.injEq, List.cons.injEq, and_true] at hu6
                obtain ⟨rfl, rfl, rfl, rfl, rfl, rfl⟩ := hu6
                rw [Nat.zero_add] at c0 c1 c2 c3 c4 c5
                clear hu hdrop ht hk
                have HB2 := hide (bv (unhide HB) (vbelow_new _ (.cells #[.int .i64 k, .bool y, .int .i64 c, .int .i64 x, .string t, .slice a' kk.length cap'] 81)))
                clear HB
                by_cases hr : k = 3
                · have H2 := hide ((unhide H).trans (kindsW_ok (us := l.drop (m + 1)) (show (Tree.mk k y c x t kk).kd = 3 from hr)))
                  subst hr
                  go_wp2
                  go_round
                  case rel => exact ⟨m + 1, by omega, by go_num, H2, HB2⟩
                  case measure => simp [intOf]; omega
                · have H2 := hide ((unhide H3).trans ((unhide H).trans (kindsW_no (us := l.drop (m + 1)) (show ¬ (Tree.mk k y c x t kk).kd = 3 from hr))))
                  have hz := bne_iff_ne.2 hr
                  go_wp2
                  go_ret
                  rw [unhide H2]
                  exact ⟨rfl, unhide HB2⟩
            · obtain rfl : m = l.length := by omega
              have H2 := unhide H
              rw [List.drop_length, kindsW] at H2
              have H4 := hide ((unhide H3).trans H2)
              clear H2
              go_wp2
              go_ret
              rw [unhide H4]
              exact ⟨rfl, unhide HB⟩
        · go_wp2
          go_loopw [33] (fun i wq => ∃ m : Nat, m ≤ l.length ∧ i = .int .i64 (m : Int) ∧ Hid (kindsW 4 l = kindsW 4 (l.drop m)) ∧ Hid (Below w.heap.size w wq)) (fun i _ => l.length - (intOf i).toNat)
          case atStart => exact ⟨0, Nat.zero_le _, rfl, hide rfl, HB⟩
          case round =>
            obtain ⟨m, hml, rfl, H, HB⟩ := hrel
            clear c0
            by_cases hlt2 : m < l.length
            · have hi1 : (m : Int) < (l.length : Int) := by omega
              obtain ⟨u, hu⟩ : ∃ u, l[m]? = some u := ⟨_, List.getElem?_eq_getElem hlt2⟩
              have hdrop := tdrop_at hlt2 hu
              obtain ⟨cs, h6, hmu⟩ := MemL.at (MemL.below ((unhide HB).mono hB) hp (unhide hm')) m u hu
              rw [hdrop] at H
              cases u with
              | mk k y c x t kk =>
                rw [Mem] at hmu
                obtain ⟨ht, hk, a', cap', rfl, _⟩ := hmu
                obtain ⟨u0, u1, u2, u3, u4, u5, hu6, c0, c1, c2, c3, c4, c5⟩ := h6
                simp only [Array.mk.injEq, List.cons.injEq, and_true] at hu6
                obtain ⟨rfl, rfl, rfl, rfl, rfl, rfl⟩ := hu6
                rw [Nat.zero_add] at c0 c1 c2 c3 c4 c5
                clear hu hdrop ht hk
                have HB2 := hide (bv (unhide HB) (vbelow_new _ (.cells #[.int .i64 k, .bool y, .int .i64 c, .int .i64 x, .string t, .slice a' kk.length cap'] 81)))
                clear HB
                by_cases hr : k = 4
                · have H2 := hide ((unhide H).trans (kindsW_ok (us := l.drop (m + 1)) (show (Tree.mk k y c x t kk).kd = 4 from hr)))
                  subst hr
                  go_wp2
                  go_round
                  case rel => exact ⟨m + 1, by omega, by go_num, H2, HB2⟩
                  case measure => simp [intOf]; omega
                · have H2 := hide ((unhide H3).trans ((unhide H).trans (kindsW_no (us := l.drop (m + 1)) (show ¬ (Tree.mk k y c x t kk).kd = 4 from hr))))
                  have hz := bne_iff_ne.2 hr
                  go_wp2
                  go_ret
                  rw [unhide H2]
                  exact ⟨rfl, unhide HB2⟩
            · obtain rfl : m = l.length := by omega
              have H2 := unhide H
              rw [List.drop_length, kindsW] at H2
              have H4 := hide ((unhide H3).trans H2)
              clear H2
              go_wp2
              go_ret
              rw [unhide H4]
              exact ⟨rfl, unhide HB⟩
      · have H3 : Hid (boundsW k0 l = 9) := hide (by unfold boundsW; rw [unhide H2, if_pos rfl, if_neg hk])
        have n3 : (k0 != 3) = true := by simp; omega
        have n4 : (k0 != 4) = true := by simp; omega
        clear H2 H hk
        go_wp2
        go_ret
        rw [unhide H3]
        exact ⟨rfl, unhide HB⟩
end Go.Proofs.YtnegjbkbfgkkjaaGreatDoor

/- Walks: what is wrong with any test, as the program tells. -/
namespace Go.Proofs.YtnegjbkbfgkkjaaGreatDoor
open Go.RowKit

/-- what wrongAt tells of a test -/
def WrongSC (T : TS) : Prop := ∀ (B : Nat) (w : World) (v : Array Value) (d : Nat), MemS B w T v → B ≤ w.heap.size → TabsIn B w → d ≤ 5 →
  Calls Tryz.prog 80 #[.agg v, .int .i64 (d : Int)] w fun e w' => e = .returned (.int .i64 (wrongS T d)) ∧ Below w.heap.size w w'

theorem wrongSL_ok {u : TS} {us : List TS} {d : Nat} (h : wrongS u d = 0) : wrongSL (u :: us) d = wrongSL us d := by rw [wrongSL, if_pos h]
theorem wrongSL_no {u : TS} {us : List TS} {d : Nat} (h : ¬ wrongS u d = 0) : wrongSL (u :: us) d = wrongS u d := by rw [wrongSL, if_neg h]
theorem wrongSL_nil (d : Nat) : wrongSL [] d = 0 := by rw [wrongSL]

set_option maxHeartbeats 1000000 in
theorem wrongKids_no (n : Nat) (a : Option Addr) (cap : Nat) (w : World) (d : Int) (h : n < 1 ∨ 20 < n) :
    Calls Tryz.prog 105 #[.slice a n cap, .int .i64 d] w fun e w' => e = .returned (.int .i64 5) ∧ Below w.heap.size w w' := by
  rcases h with h | h
  · obtain rfl : n = 0 := by omega
    go_enter Tryz.func105, Tryz.ntmps105
    go_wp2
    go_ret
    exact ⟨rfl, Below.refl _ _⟩
  · have h1 : ¬ (n : Int) < 1 := by omega
    have h2 : (20 : Int) < (n : Int) := by omega
    go_enter Tryz.func105, Tryz.ntmps105
    go_wp2
    go_ret
    exact ⟨rfl, Below.refl _ _⟩

set_option maxHeartbeats 4000000 in
theorem wrongKids_of (ks : List TS) (IH : ∀ u ∈ ks, WrongSC u) (B : Nat) (w : World) (b off cap d : Nat) (hm : MemSL B w ks b off) (hlt : b < B) (h1 : ¬ ks.length < 1) (h2 : ¬ 20 < ks.length) (hB : B ≤ w.heap.size) (hT : TabsIn B w) (hd : d ≤ 5) :
    Calls Tryz.prog 105 #[.slice (some ⟨b, off, none⟩) ks.length cap, .int .i64 (d : Int)] w fun e w' => e = .returned (.int .i64 (wrongSL ks d)) ∧ Below w.heap.size w w' := by
  have g1 : ¬ (ks.length : Int) < 1 := by omega
  have g2 : ¬ (20 : Int) < (ks.length : Int) := by omega
  have IH' := hide IH
  have hm' := hide hm
  have HT := hide hT
  clear IH hm hT
  go_enter Tryz.func105, Tryz.ntmps105
  go_wp2
  go_loopw [18] (fun i wr => ∃ m : Nat, m ≤ ks.length ∧ i = .int .i64 (m : Int) ∧ Hid (wrongSL ks d = wrongSL (ks.drop m) d) ∧ Hid (Below w.heap.size w wr)) (fun i _ => ks.length - (intOf i).toNat)
  case atStart => exact ⟨0, Nat.zero_le _, rfl, hide rfl, hide (Below.refl _ _)⟩
  case round =>
    obtain ⟨m, hml, rfl, H, HB⟩ := hrel
    by_cases hlt2 : m < ks.length
    · have hi1 : (m : Int) < (ks.length : Int) := by omega
      obtain ⟨u, hu⟩ : ∃ u, ks[m]? = some u := ⟨_, List.getElem?_eq_getElem hlt2⟩
      have hdrop := sdrop_at hlt2 hu
      have HU := hide (unhide IH' u (List.mem_of_getElem? hu))
      obtain ⟨cs, h6, hmu⟩ := MemSL.at (MemSL.below ((unhide HB).mono hB) hlt (unhide hm')) m u hu
      have HM := hide hmu
      rw [hdrop] at H
      cases u with
      | mk k ta tb oa ob kk =>
        rw [MemS] at hmu
        obtain ⟨_, d0, d1, d2, d3, d4, d5, e0, e1, e2, e3, e4, e5, ad', cp, hta, htb, rfl, _⟩ := hmu
        obtain ⟨y1, r1, x1, t1, l1, n1, p1, rfl, rfl, rfl, rfl, rfl, rfl⟩ := hta.six
        obtain ⟨y2, r2, x2, t2, l2, n2, p2, rfl, rfl, rfl, rfl, rfl, rfl⟩ := htb.six
        clear hta htb
        obtain ⟨c0, c1, c2, c3, c4, c5, c6, c7, c8, c9, c10, c11, c12, c13, c14, c15⟩ := h6.tell
        clear hu hdrop h6
        go_wp2_with fail
        have hba := vbelow_new wr (.cells #[.int .i64 k, .int .i64 ta.kd, .bool y1, .int .i64 r1, .int .i64 x1, .string t1, .slice l1 n1 p1, .int .i64 tb.kd, .bool y2, .int .i64 r2, .int .i64 x2, .string t2, .slice l2 n2 p2, .bool oa, .bool ob, .slice ad' kk.length cp] 83)
        have hbw := bv (unhide HB) hba
        refine (unhide HU B _ _ d (MemS.below (hba.mono (Nat.le_trans hB (unhide HB).size)) (unhide HM)) (Nat.le_trans hB hbw.size) ((unhide HT).below (hbw.mono hB)) hd).mono ?_
        rintro e w2 ⟨rfl, hb2⟩
        have HB2 := hide (bv hbw hb2)
        clear hb2 hba hbw HB HM c0 c1 c2 c3 c4 c5 c6 c7 c8 c9 c10 c11 c12 c13 c14 c15
        by_cases hr : wrongS (.mk k ta tb oa ob kk) d = 0
        · have hz : (wrongS (.mk k ta tb oa ob kk) d != 0) = false := by simp [hr]
          have H2 := hide ((unhide H).trans (wrongSL_ok (us := ks.drop (m + 1)) hr))
          generalize wrongS (.mk k ta tb oa ob kk) d = R at *
          clear hr H
          go_wp2
          go_round
          case rel => exact ⟨m + 1, by omega, by go_num, H2, HB2⟩
          case measure => simp [intOf]; omega
        · have hz : (wrongS (.mk k ta tb oa ob kk) d != 0) = true := by simp [hr]
          have H2 := hide ((unhide H).trans (wrongSL_no (us := ks.drop (m + 1)) hr))
          generalize wrongS (.mk k ta tb oa ob kk) d = R at *
          clear hr H
          go_wp2
          go_ret
          rw [unhide H2]
          exact ⟨rfl, unhide HB2⟩
    · obtain rfl : m = ks.length := by omega
      have H2 : Hid (wrongSL ks d = 0) := by
        have h := unhide H
        rw [List.drop_length, wrongSL_nil] at h
        exact hide h
      go_wp2
      go_ret
      rw [unhide H2]
      exact ⟨rfl, unhide HB⟩

theorem ws_much {k : Int} {a b : Tree} {oa ob : Bool} {ks : List TS} {d : Nat} (h : 4 < d) : wrongS (.mk k a b oa ob ks) d = 4 := by rw [wrongS, if_pos h]
theorem ws_kind {k : Int} {a b : Tree} {oa ob : Bool} {ks : List TS} {d : Nat} (h : ¬ 4 < d) (hk : k < 1 ∨ 9 < k) : wrongS (.mk k a b oa ob ks) d = 1 := by rw [wrongS, if_neg h, if_pos hk]
theorem ws_kids {k : Int} {a b : Tree} {oa ob : Bool} {ks : List TS} {d : Nat} (h : ¬ 4 < d) (hk : k = 8 ∨ k = 9) : wrongS (.mk k a b oa ob ks) d = if ks.length < 1 ∨ 20 < ks.length then 5 else wrongSL ks (d + 1) := by rw [wrongS, if_neg h, if_neg (by omega), if_pos hk]
theorem ws_any {a b : Tree} {oa ob : Bool} {ks : List TS} {d : Nat} (h : ¬ 4 < d) : wrongS (.mk 1 a b oa ob ks) d = 0 := by rw [wrongS, if_neg h, if_neg (by omega), if_neg (by omega), if_pos rfl]
theorem ws_is {a b : Tree} {oa ob : Bool} {ks : List TS} {d : Nat} (h : ¬ 4 < d) : wrongS (.mk 2 a b oa ob ks) d = valW a := by rw [wrongS, if_neg h, if_neg (by omega), if_neg (by omega), if_neg (by omega), if_pos rfl]
theorem ws_in {a b : Tree} {oa ob : Bool} {ks : List TS} {d : Nat} (h : ¬ 4 < d) : wrongS (.mk 7 a b oa ob ks) d = twoW a b := by rw [wrongS, if_neg h, if_neg (by omega), if_neg (by omega), if_neg (by omega), if_neg (by omega), if_pos rfl]
theorem ws_one {k : Int} {a b : Tree} {oa ob : Bool} {ks : List TS} {d : Nat} (h : ¬ 4 < d) (hk : k = 3 ∨ k = 4 ∨ k = 5 ∨ k = 6) : wrongS (.mk k a b oa ob ks) d = oneW a := by rw [wrongS, if_neg h, if_neg (by omega), if_neg (by omega), if_neg (by omega), if_neg (by omega), if_neg (by omega)]

theorem Mem.kd0 {B : Nat} {w : World} {T : Tree} {a0 a1 a2 a3 a4 a5 : Value} (h : Mem B w T #[a0, a1, a2, a3, a4, a5]) : a0 = .int .i64 T.kd := by
  obtain ⟨_, _, _, _, _, _, _, e, _⟩ := h.six
  exact e
theorem TabsIn.mono {B B' : Nat} {w : World} (h : TabsIn B w) (l : B ≤ B') : TabsIn B' w := ⟨h.1, Nat.lt_of_lt_of_le h.2.1 l, Nat.lt_of_lt_of_le h.2.2 l⟩

set_option maxHeartbeats 8000000 in
theorem wrongAt_of (k : Int) (a b : Tree) (oa ob : Bool) (ks : List TS) (IH : ∀ u ∈ ks, WrongSC u) : WrongSC (.mk k a b oa ob ks) := by
  intro B w v d hM hB hT hd
  rw [MemS] at hM
  obtain ⟨hkl, a0, a1, a2, a3, a4, a5, b0, b1, b2, b3, b4, b5, ad, cap, ha, hb, rfl, hks⟩ := hM
  have NB := hide (vbelow_new w (.cells #[.int .i64 k, a0, a1, a2, a3, a4, a5, b0, b1, b2, b3, b4, b5, .bool oa, .bool ob, .slice ad ks.length cap] 83))
  have HA := hide ha
  have HBB := hide hb
  have HK := hide hks
  have HT := hide hT
  have IH' := hide IH
  clear ha hb hks hT IH
  by_cases h1 : 4 < d
  · rw [ws_much h1]
    have h1' : (4 : Int) < (d : Int) := by omega
    go_enter Tryz.func80, Tryz.ntmps80
    go_wp2
    go_ret
    exact ⟨rfl, unhide NB⟩
  have h1' : ¬ (4 : Int) < (d : Int) := by omega
  by_cases k1 : k = 1
  · subst k1
    rw [ws_any h1]
    go_enter Tryz.func80, Tryz.ntmps80
    go_wp2
    go_ret
    exact ⟨rfl, unhide NB⟩
  by_cases k2 : k = 2
  · subst k2
    rw [ws_is h1]
    go_enter Tryz.func80, Tryz.ntmps80
    go_wp2_with fail
    refine (wrongValue_any a _ B _ (Nat.le_trans hB (unhide NB).size) (Mem.below ((unhide NB).mono hB) (unhide HA)) ((unhide HT).below ((unhide NB).mono hB))).mono ?_
    rintro e w1 ⟨rfl, hb1⟩
    have HB1 := hide (bv (unhide NB) hb1)
    clear hb1
    go_wp2
    go_ret
    exact ⟨rfl, unhide HB1⟩
  by_cases k4 : k = 3 ∨ k = 4 ∨ k = 5 ∨ k = 6
  · rw [ws_one h1 k4, ← oneW_is]
    have BC : Hid (∀ W, Below w.heap.size w W → W.heap.size = w.heap.size + 1 → Calls Tryz.prog 104 #[.slice (some ⟨w.heap.size + 1, 0, none⟩) 1 1] (W.alloc (.cells #[a0, a1, a2, a3, a4, a5] 81)) fun e w' => e = .returned (.int .i64 (boundsW a.kd [a])) ∧ Below (W.alloc (.cells #[a0, a1, a2, a3, a4, a5] 81)).heap.size (W.alloc (.cells #[a0, a1, a2, a3, a4, a5] 81)) w') := hide (fun W hN hs => by
      have q := bounds_any a.kd [a] (W.alloc (.cells #[a0, a1, a2, a3, a4, a5] 81)) (W.heap.size + 1) W.heap.size (by rw [← (unhide HA).kd0]; simp [go_sem]) (by simp) (by omega)
        (by
          have hM := Mem.mono (Nat.le_trans hB (Nat.le_trans hN.size (Nat.le_succ _))) (Mem.below ((bv hN (vbelow_new W (.cells #[a0, a1, a2, a3, a4, a5] 81))).mono hB) (unhide HA))
          rw [MemL, MemL]
          exact ⟨⟨_, ⟨a0, a1, a2, a3, a4, a5, rfl, by simp [go_sem], by simp [go_sem], by simp [go_sem], by simp [go_sem], by simp [go_sem], by simp [go_sem]⟩, hM⟩, trivial⟩) (by simp) (by simp)
        (((unhide HT).below ((bv hN (vbelow_new W (.cells #[a0, a1, a2, a3, a4, a5] 81))).mono hB)).mono (Nat.le_trans hB (Nat.le_trans hN.size (Nat.le_succ _))))
      rw [hs] at q
      exact q)
    generalize boundsW a.kd [a] = R at *
    rcases k4 with rfl | rfl | rfl | rfl
    all_goals
      go_enter Tryz.func80, Tryz.ntmps80
      go_wp2_with fail
      refine (unhide BC _ (unhide NB) (by simp)).mono ?_
      rintro e w1 ⟨rfl, hb1⟩
      have HB1 := hide (bv (bv (unhide NB) (vbelow_new _ _)) hb1)
      clear hb1
      go_wp2
      go_ret
      exact ⟨rfl, unhide HB1⟩
  by_cases k7 : k = 7
  · subst k7
    rw [ws_in h1, ← twoW_is]
    have BC : Hid (∀ W, Below w.heap.size w W → W.heap.size = w.heap.size + 1 → Calls Tryz.prog 104 #[.slice (some ⟨w.heap.size + 1, 0, none⟩) 2 2] (W.alloc (.cells #[a0, a1, a2, a3, a4, a5, b0, b1, b2, b3, b4, b5] 81)) fun e w' => e = .returned (.int .i64 (boundsW a.kd [a, b])) ∧ Below (W.alloc (.cells #[a0, a1, a2, a3, a4, a5, b0, b1, b2, b3, b4, b5] 81)).heap.size (W.alloc (.cells #[a0, a1, a2, a3, a4, a5, b0, b1, b2, b3, b4, b5] 81)) w') := hide (fun W hN hs => by
      have q := bounds_any a.kd [a, b] (W.alloc (.cells #[a0, a1, a2, a3, a4, a5, b0, b1, b2, b3, b4, b5] 81)) (W.heap.size + 1) W.heap.size (by rw [← (unhide HA).kd0]; simp [go_sem]) (by simp) (by omega)
        (by
          have hM := Mem.mono (Nat.le_trans hB (Nat.le_trans hN.size (Nat.le_succ _))) (Mem.below ((bv hN (vbelow_new W (.cells #[a0, a1, a2, a3, a4, a5, b0, b1, b2, b3, b4, b5] 81))).mono hB) (unhide HA))
          have hM2 := Mem.mono (Nat.le_trans hB (Nat.le_trans hN.size (Nat.le_succ _))) (Mem.below ((bv hN (vbelow_new W (.cells #[a0, a1, a2, a3, a4, a5, b0, b1, b2, b3, b4, b5] 81))).mono hB) (unhide HBB))
          rw [MemL, MemL, MemL]
          exact ⟨⟨_, ⟨a0, a1, a2, a3, a4, a5, rfl, by simp [go_sem], by simp [go_sem], by simp [go_sem], by simp [go_sem], by simp [go_sem], by simp [go_sem]⟩, hM⟩, ⟨_, ⟨b0, b1, b2, b3, b4, b5, rfl, by simp [go_sem], by simp [go_sem], by simp [go_sem], by simp [go_sem], by simp [go_sem], by simp [go_sem]⟩, hM2⟩, trivial⟩) (by simp) (by simp)
        (((unhide HT).below ((bv hN (vbelow_new W (.cells #[a0, a1, a2, a3, a4, a5, b0, b1, b2, b3, b4, b5] 81))).mono hB)).mono (Nat.le_trans hB (Nat.le_trans hN.size (Nat.le_succ _))))
      rw [hs] at q
      exact q)
    generalize boundsW a.kd [a, b] = R at *
    go_enter Tryz.func80, Tryz.ntmps80
    go_wp2_with fail
    refine (unhide BC _ (unhide NB) (by simp)).mono ?_
    rintro e w1 ⟨rfl, hb1⟩
    have HB1 := hide (bv (bv (unhide NB) (vbelow_new _ _)) hb1)
    clear hb1
    go_wp2
    go_ret
    exact ⟨rfl, unhide HB1⟩
  by_cases k8 : k = 8 ∨ k = 9
  · rw [ws_kids h1 k8]
    have WK : ∀ wx, Below w.heap.size w wx → Calls Tryz.prog 105 #[.slice ad ks.length cap, .int .i64 ((d : Int) + 1)] wx fun e w' => e = .returned (.int .i64 (if ks.length < 1 ∨ 20 < ks.length then 5 else wrongSL ks (d + 1))) ∧ Below wx.heap.size wx w' := by
      intro wx hx
      by_cases hn : ks.length < 1 ∨ 20 < ks.length
      · rw [if_pos hn]
        exact wrongKids_no _ _ _ _ _ hn
      · rw [if_neg hn]
        obtain ⟨bl, off, rfl, hlt, hm⟩ := unhide HK (by intro e; rw [e] at hn; simp at hn)
        have C := wrongKids_of ks (unhide IH') B wx bl off cap (d + 1) (MemSL.below (hx.mono hB) hlt hm) hlt (by omega) (by omega) (Nat.le_trans hB hx.size) ((unhide HT).below (hx.mono hB)) (by omega)
        rw [show ((d + 1 : Nat) : Int) = (d : Int) + 1 by omega] at C
        exact C
    replace WK := hide WK
    generalize (if ks.length < 1 ∨ 20 < ks.length then (5 : Int) else wrongSL ks (d + 1)) = R at *
    rcases k8 with rfl | rfl
    all_goals
      go_enter Tryz.func80, Tryz.ntmps80
      go_wp2_with fail
      refine (unhide WK _ (unhide NB)).mono ?_
      rintro e w1 ⟨rfl, hb1⟩
      have HB1 := hide (bv (unhide NB) hb1)
      clear hb1
      go_wp2
      go_ret
      exact ⟨rfl, unhide HB1⟩
  · rw [ws_kind h1 (by omega)]
    have n1 : (k == 1) = false := by simpa using k1
    have n2 : (k == 2) = false := by simpa using k2
    have n3 : (k == 3) = false := by simp; omega
    have n4 : (k == 4) = false := by simp; omega
    have n5 : (k == 5) = false := by simp; omega
    have n6 : (k == 6) = false := by simp; omega
    have n7 : (k == 7) = false := by simpa using k7
    have n8 : (k == 8) = false := by simp; omega
    have n9 : (k == 9) = false := by simp; omega
    go_enter Tryz.func80, Tryz.ntmps80
    go_wp2
    go_ret
    exact ⟨rfl, unhide NB⟩

mutual
theorem wrongS_all : ∀ T : TS, WrongSC T
  | .mk k a b oa ob ks => wrongAt_of k a b oa ob ks (fun u h => wrongS_alls ks u h)
theorem wrongS_alls : ∀ (ks : List TS) (u : TS), u ∈ ks → WrongSC u
  | [], u, h => by cases h
  | v :: vs, u, h => by
    by_cases e : u = v
    · rw [e]; exact wrongS_all v
    · exact wrongS_alls vs u ((List.mem_cons.1 h).resolve_left e)
end

set_option maxHeartbeats 1000000 in
theorem trWrong_any (T : TS) (v : Array Value) (B : Nat) (w : World) (hB : B ≤ w.heap.size) (hM : MemS B w T v) (hT : TabsIn B w) :
    Calls Tryz.prog 64 #[.agg v] w fun e w' => e = .returned (.int .i64 (wrongS T 1)) ∧ Below w.heap.size w w' := by
  have C := hide (fun wx (hb : Below w.heap.size w wx) => wrongS_all T B wx v 1 (MemS.below (hb.mono hB) hM) (Nat.le_trans hB hb.size) (hT.below (hb.mono hB)) (by omega))
  obtain ⟨k, a, b, oa, ob, ks⟩ := T
  rw [MemS] at hM
  obtain ⟨_, a0, a1, a2, a3, a4, a5, b0, b1, b2, b3, b4, b5, ad, cap, _, _, rfl, _⟩ := hM
  clear hT
  go_enter Tryz.func64, Tryz.ntmps64
  go_wp2_with fail
  refine (unhide C _ (vbelow_new _ _)).mono ?_
  rintro e w1 ⟨rfl, hb⟩
  have HB := hide (bv (vbelow_new w _) hb)
  clear hb
  go_wp2
  go_ret
  exact ⟨rfl, unhide HB⟩
end Go.Proofs.YtnegjbkbfgkkjaaGreatDoor

/- Boxes of a call of two values; right tests have right values. -/
namespace Go.Proofs.YtnegjbkbfgkkjaaGreatDoor
open Go.RowKit

theorem valW0 {a : Tree} (h : valW a = 0) : (wrongF a 0 1).1 = 0 := by
  obtain ⟨k, y, c, x, t, ks⟩ := a
  rw [valW] at h
  split at h
  · assumption
  · exact h
theorem valW_kd {a : Tree} (h : valW a = 0) : a.kd = 1 ∨ a.kd = 2 ∨ a.kd = 3 ∨ a.kd = 4 := by
  have h0 := valW0 h
  obtain ⟨k, y, c, x, t, ks⟩ := a
  rw [valW, if_pos h0] at h
  show k = 1 ∨ k = 2 ∨ k = 3 ∨ k = 4
  by_cases k5 : k = 5
  · rw [if_pos k5] at h; cases h
  by_cases k1 : k = 1
  · exact .inl k1
  by_cases k2 : k = 2
  · exact .inr (.inl k2)
  by_cases k3 : k = 3
  · exact .inr (.inr (.inl k3))
  by_cases k4 : k = 4
  · exact .inr (.inr (.inr k4))
  rw [wf_else (by omega) k1 k2 k3 k4 k5] at h0
  cases h0
theorem oneW0 {a : Tree} (h : oneW a = 0) : valW a = 0 := by
  unfold oneW at h
  split at h
  · assumption
  · exact h
theorem twoW0 {a b : Tree} (h : twoW a b = 0) : valW a = 0 ∧ valW b = 0 := by
  unfold twoW at h
  by_cases ha : valW a = 0
  · by_cases hb : valW b = 0
    · exact ⟨ha, hb⟩
    · rw [if_pos ha, if_neg hb] at h; exact absurd h hb
  · rw [if_neg ha] at h; exact absurd h ha
theorem wrongSL0 : ∀ {ks : List TS} {d : Nat}, wrongSL ks d = 0 → ∀ u ∈ ks, wrongS u d = 0
  | [], _, _, u, hu => by cases hu
  | v :: vs, d, h, u, hu => by
    by_cases hv : wrongS v d = 0
    · rw [wrongSL_ok hv] at h
      by_cases e : u = v
      · rw [e]; exact hv
      · exact wrongSL0 h u ((List.mem_cons.1 hu).resolve_left e)
    · rw [wrongSL_no hv] at h
      exact absurd h hv
end Go.Proofs.YtnegjbkbfgkkjaaGreatDoor

/- Walks: of which types a right test may be asked, as the program and the document tell. (Written by gen_s12.py.) -/
namespace Go.Proofs.YtnegjbkbfgkkjaaGreatDoor
open Go.RowKit

set_option maxHeartbeats 4000000 in
theorem tfits_leaf (k : Int) (hk : ¬ k = 1 ∧ ¬ k = 8 ∧ ¬ k = 9) (ka : Int) (hka : ka = 1 ∨ ka = 2 ∨ ka = 3 ∨ ka = 4) (ty : Int) (a1 a2 a3 a4 a5 b0 b1 b2 b3 b4 b5 o1 o2 sl : Value) (w : World) :
    Calls Tryz.prog 81 #[.agg #[.int .i64 k, .int .i64 ka, a1, a2, a3, a4, a5, b0, b1, b2, b3, b4, b5, o1, o2, sl], .int .i64 ty] w fun e w' => e = .returned (.bool (fitV ka ty)) ∧ Below w.heap.size w w' := by
  have n1 : (k == 1) = false := by simpa using hk.1
  have n8 : (k == 8) = false := by simpa using hk.2.1
  have n9 : (k == 9) = false := by simpa using hk.2.2
  clear hk
  rcases hka with rfl | rfl | rfl | rfl
  · go_enter Tryz.func81, Tryz.ntmps81
    go_wp2
    go_ret
    exact ⟨rfl, vbelow_new _ _⟩
  · by_cases t6 : ty = 6
    · subst t6
      go_enter Tryz.func81, Tryz.ntmps81
      go_wp2
      go_ret
      exact ⟨rfl, vbelow_new _ _⟩
    have t6' : (ty == 6) = false := by simpa using t6
    by_cases tk : ty = 2
    · subst tk
      go_enter Tryz.func81, Tryz.ntmps81
      go_wp2
      go_ret
      exact ⟨rfl, vbelow_new _ _⟩
    · have tk' : (ty == 2) = false := by simpa using tk
      have E : Hid (fitV 2 ty = false) := hide (by simp [fitV, t6, tk])
      go_enter Tryz.func81, Tryz.ntmps81
      go_wp2
      go_ret
      rw [unhide E]
      exact ⟨rfl, vbelow_new _ _⟩
  · by_cases t6 : ty = 6
    · subst t6
      go_enter Tryz.func81, Tryz.ntmps81
      go_wp2
      go_ret
      exact ⟨rfl, vbelow_new _ _⟩
    have t6' : (ty == 6) = false := by simpa using t6
    by_cases tk : ty = 3
    · subst tk
      go_enter Tryz.func81, Tryz.ntmps81
      go_wp2
      go_ret
      exact ⟨rfl, vbelow_new _ _⟩
    · have tk' : (ty == 3) = false := by simpa using tk
      have E : Hid (fitV 3 ty = false) := hide (by simp [fitV, t6, tk])
      go_enter Tryz.func81, Tryz.ntmps81
      go_wp2
      go_ret
      rw [unhide E]
      exact ⟨rfl, vbelow_new _ _⟩
  · by_cases t6 : ty = 6
    · subst t6
      go_enter Tryz.func81, Tryz.ntmps81
      go_wp2
      go_ret
      exact ⟨rfl, vbelow_new _ _⟩
    have t6' : (ty == 6) = false := by simpa using t6
    by_cases tk : ty = 4
    · subst tk
      go_enter Tryz.func81, Tryz.ntmps81
      go_wp2
      go_ret
      exact ⟨rfl, vbelow_new _ _⟩
    · have tk' : (ty == 4) = false := by simpa using tk
      have E : Hid (fitV 4 ty = false) := hide (by simp [fitV, t6, tk])
      go_enter Tryz.func81, Tryz.ntmps81
      go_wp2
      go_ret
      rw [unhide E]
      exact ⟨rfl, vbelow_new _ _⟩


/-- what tfits tells of a right test -/
def FitsC (T : TS) : Prop := ∀ (w : World) (q : Array Value) (ty : Int) (d : Nat), MemS w.heap.size w T q → wrongS T d = 0 →
  Calls Tryz.prog 81 #[.agg q, .int .i64 ty] w fun e w' => e = .returned (.bool (fitsS T ty)) ∧ Below w.heap.size w w'

set_option maxRecDepth 100000 in
set_option maxHeartbeats 8000000 in
theorem FitsC_k8 (a b : Tree) (oa ob : Bool) (ks : List TS) (IH : ∀ u ∈ ks, FitsC u) : FitsC (.mk 8 a b oa ob ks) := by
  intro w q ty d hM hw
  rw [MemS] at hM
  obtain ⟨hkl, a0, a1, a2, a3, a4, a5, b0, b1, b2, b3, b4, b5, ad, cap, ha, hb, rfl, hks⟩ := hM
  have h4 : ¬ 4 < d := by
    intro h
    rw [ws_much h] at hw
    cases hw
  obtain rfl := ha.kd0
  rw [fitsS, if_neg (by decide), if_pos (by decide)]
  rw [ws_kids h4 (by decide)] at hw
  by_cases hn : ks.length < 1 ∨ 20 < ks.length
  · rw [if_pos hn] at hw; cases hw
  rw [if_neg hn] at hw
  obtain ⟨bl, off, rfl, hlt, hm⟩ := hks (by intro e; rw [e] at hn; simp at hn)
  have hm' := hide hm
  have IH' := hide IH
  have HW := hide (wrongSL0 hw)
  obtain ⟨W0, hW0⟩ : ∃ W0, W0 = (w.alloc (.cells #[.int .i64 8, .int .i64 a.kd, a1, a2, a3, a4, a5, b0, b1, b2, b3, b4, b5, .bool oa, .bool ob, .slice (some ⟨bl, off, none⟩) ks.length cap] 83)) := ⟨_, rfl⟩
  have NB : Hid (Below w.heap.size w W0) := hide (by rw [hW0]; exact vbelow_new _ _)
  clear hm IH hw ha hb hks
  go_enter Tryz.func81, Tryz.ntmps81
  go_wp2
  rw [← hW0]
  clear hW0
  go_loopw [17] (fun i wr => ∃ m : Nat, m ≤ ks.length ∧ i = .int .i64 (m : Int) ∧ Hid (fitsL ks ty = fitsL (ks.drop m) ty) ∧ Hid (Below W0.heap.size W0 wr)) (fun i _ => ks.length - (intOf i).toNat)
  case atStart => exact ⟨0, Nat.zero_le _, rfl, hide rfl, hide (Below.refl _ _)⟩
  case round =>
    obtain ⟨m, hml, rfl, H, HB0⟩ := hrel
    have HB := hide (bv (unhide NB) (unhide HB0))
    by_cases hlt2 : m < ks.length
    · have hi1 : (m : Int) < (ks.length : Int) := by omega
      obtain ⟨u, hu⟩ : ∃ u, ks[m]? = some u := ⟨_, List.getElem?_eq_getElem hlt2⟩
      have hdrop := sdrop_at hlt2 hu
      have HU := hide (unhide IH' u (List.mem_of_getElem? hu))
      have HR := hide (unhide HW u (List.mem_of_getElem? hu))
      obtain ⟨cs, h6, hmu⟩ := MemSL.at (MemSL.below (unhide HB) hlt (unhide hm')) m u hu
      have HM := hide hmu
      rw [hdrop] at H
      cases u with
      | mk k' ta tb oa' ob' kk =>
        rw [MemS] at hmu
        obtain ⟨_, d0, d1, d2, d3, d4, d5, e0, e1, e2, e3, e4, e5, ad', cp, hta, htb, rfl, _⟩ := hmu
        obtain ⟨y1, r1, x1, t1, l1, n1, p1, rfl, rfl, rfl, rfl, rfl, rfl⟩ := hta.six
        obtain ⟨y2, r2, x2, t2, l2, n2, p2, rfl, rfl, rfl, rfl, rfl, rfl⟩ := htb.six
        clear hta htb
        obtain ⟨c0, c1, c2, c3, c4, c5, c6, c7, c8, c9, c10, c11, c12, c13, c14, c15⟩ := h6.tell
        clear hu hdrop h6
        go_wp2_with fail
        have hba := vbelow_new wr (.cells #[.int .i64 k', .int .i64 ta.kd, .bool y1, .int .i64 r1, .int .i64 x1, .string t1, .slice l1 n1 p1, .int .i64 tb.kd, .bool y2, .int .i64 r2, .int .i64 x2, .string t2, .slice l2 n2 p2, .bool oa', .bool ob', .slice ad' kk.length cp] 83)
        have hbw := bv (unhide HB) hba
        refine (unhide HU _ _ ty (d + 1) (MemS.mono hbw.size (MemS.below (hba.mono (unhide HB).size) (unhide HM))) (unhide HR)).mono ?_
        rintro e w2 ⟨rfl, hb2⟩
        have HB2 := hide (bv (bv (unhide HB0) hba) hb2)
        have HB3 := hide (bv hbw hb2)
        clear hb2 hba hbw HB HB0 HM HU HR c0 c1 c2 c3 c4 c5 c6 c7 c8 c9 c10 c11 c12 c13 c14 c15
        have H2 : Hid (fitsL ks ty = (fitsS (.mk k' ta tb oa' ob' kk) ty && fitsL (ks.drop (m + 1)) ty)) := hide (by rw [unhide H, fitsL])
        generalize fitsS (.mk k' ta tb oa' ob' kk) ty = F at *
        clear H
        cases F
        · have H3 : Hid (fitsL ks ty = false) := hide (by rw [unhide H2]; rfl)
          clear H2
          go_wp2
          go_ret
          rw [unhide H3]
          exact ⟨rfl, unhide HB3⟩
        · have H3 : Hid (fitsL ks ty = fitsL (ks.drop (m + 1)) ty) := hide (by rw [unhide H2]; rfl)
          clear H2
          go_wp2
          go_round
          case rel => exact ⟨m + 1, by omega, by go_num, H3, HB2⟩
          case measure => simp [intOf]; omega
    · obtain rfl : m = ks.length := by omega
      have H2 : Hid (fitsL ks ty = true) := by
        have h := unhide H
        rw [List.drop_length, fitsL] at h
        exact hide h
      go_wp2
      go_ret
      rw [unhide H2]
      exact ⟨rfl, unhide HB⟩

set_option maxRecDepth 100000 in
set_option maxHeartbeats 8000000 in
theorem FitsC_k9 (a b : Tree) (oa ob : Bool) (ks : List TS) (IH : ∀ u ∈ ks, FitsC u) : FitsC (.mk 9 a b oa ob ks) := by
  intro w q ty d hM hw
  rw [MemS] at hM
  obtain ⟨hkl, a0, a1, a2, a3, a4, a5, b0, b1, b2, b3, b4, b5, ad, cap, ha, hb, rfl, hks⟩ := hM
  have h4 : ¬ 4 < d := by
    intro h
    rw [ws_much h] at hw
    cases hw
  obtain rfl := ha.kd0
  rw [fitsS, if_neg (by decide), if_pos (by decide)]
  rw [ws_kids h4 (by decide)] at hw
  by_cases hn : ks.length < 1 ∨ 20 < ks.length
  · rw [if_pos hn] at hw; cases hw
  rw [if_neg hn] at hw
  obtain ⟨bl, off, rfl, hlt, hm⟩ := hks (by intro e; rw [e] at hn; simp at hn)
  have hm' := hide hm
  have IH' := hide IH
  have HW := hide (wrongSL0 hw)
  obtain ⟨W0, hW0⟩ : ∃ W0, W0 = (w.alloc (.cells #[.int .i64 9, .int .i64 a.kd, a1, a2, a3, a4, a5, b0, b1, b2, b3, b4, b5, .bool oa, .bool ob, .slice (some ⟨bl, off, none⟩) ks.length cap] 83)) := ⟨_, rfl⟩
  have NB : Hid (Below w.heap.size w W0) := hide (by rw [hW0]; exact vbelow_new _ _)
  clear hm IH hw ha hb hks
  go_enter Tryz.func81, Tryz.ntmps81
  go_wp2
  rw [← hW0]
  clear hW0
  go_loopw [17] (fun i wr => ∃ m : Nat, m ≤ ks.length ∧ i = .int .i64 (m : Int) ∧ Hid (fitsL ks ty = fitsL (ks.drop m) ty) ∧ Hid (Below W0.heap.size W0 wr)) (fun i _ => ks.length - (intOf i).toNat)
  case atStart => exact ⟨0, Nat.zero_le _, rfl, hide rfl, hide (Below.refl _ _)⟩
  case round =>
    obtain ⟨m, hml, rfl, H, HB0⟩ := hrel
    have HB := hide (bv (unhide NB) (unhide HB0))
    by_cases hlt2 : m < ks.length
    · have hi1 : (m : Int) < (ks.length : Int) := by omega
      obtain ⟨u, hu⟩ : ∃ u, ks[m]? = some u := ⟨_, List.getElem?_eq_getElem hlt2⟩
      have hdrop := sdrop_at hlt2 hu
      have HU := hide (unhide IH' u (List.mem_of_getElem? hu))
      have HR := hide (unhide HW u (List.mem_of_getElem? hu))
      obtain ⟨cs, h6, hmu⟩ := MemSL.at (MemSL.below (unhide HB) hlt (unhide hm')) m u hu
      have HM := hide hmu
      rw [hdrop] at H
      cases u with
      | mk k' ta tb oa' ob' kk =>
        rw [MemS] at hmu
        obtain ⟨_, d0, d1, d2, d3, d4, d5, e0, e1, e2, e3, e4, e5, ad', cp, hta, htb, rfl, _⟩ := hmu
        obtain ⟨y1, r1, x1, t1, l1, n1, p1, rfl, rfl, rfl, rfl, rfl, rfl⟩ := hta.six
        obtain ⟨y2, r2, x2, t2, l2, n2, p2, rfl, rfl, rfl, rfl, rfl, rfl⟩ := htb.six
        clear hta htb
        obtain ⟨c0, c1, c2, c3, c4, c5, c6, c7, c8, c9, c10, c11, c12, c13, c14, c15⟩ := h6.tell
        clear hu hdrop h6
        go_wp2_with fail
        have hba := vbelow_new wr (.cells #[.int .i64 k', .int .i64 ta.kd, .bool y1, .int .i64 r1, .int .i64 x1, .string t1, .slice l1 n1 p1, .int .i64 tb.kd, .bool y2, .int .i64 r2, .int .i64 x2, .string t2, .slice l2 n2 p2, .bool oa', .bool ob', .slice ad' kk.length cp] 83)
        have hbw := bv (unhide HB) hba
        refine (unhide HU _ _ ty (d + 1) (MemS.mono hbw.size (MemS.below (hba.mono (unhide HB).size) (unhide HM))) (unhide HR)).mono ?_
        rintro e w2 ⟨rfl, hb2⟩
        have HB2 := hide (bv (bv (unhide HB0) hba) hb2)
        have HB3 := hide (bv hbw hb2)
        clear hb2 hba hbw HB HB0 HM HU HR c0 c1 c2 c3 c4 c5 c6 c7 c8 c9 c10 c11 c12 c13 c14 c15
        have H2 : Hid (fitsL ks ty = (fitsS (.mk k' ta tb oa' ob' kk) ty && fitsL (ks.drop (m + 1)) ty)) := hide (by rw [unhide H, fitsL])
        generalize fitsS (.mk k' ta tb oa' ob' kk) ty = F at *
        clear H
        cases F
        · have H3 : Hid (fitsL ks ty = false) := hide (by rw [unhide H2]; rfl)
          clear H2
          go_wp2
          go_ret
          rw [unhide H3]
          exact ⟨rfl, unhide HB3⟩
        · have H3 : Hid (fitsL ks ty = fitsL (ks.drop (m + 1)) ty) := hide (by rw [unhide H2]; rfl)
          clear H2
          go_wp2
          go_round
          case rel => exact ⟨m + 1, by omega, by go_num, H3, HB2⟩
          case measure => simp [intOf]; omega
    · obtain rfl : m = ks.length := by omega
      have H2 : Hid (fitsL ks ty = true) := by
        have h := unhide H
        rw [List.drop_length, fitsL] at h
        exact hide h
      go_wp2
      go_ret
      rw [unhide H2]
      exact ⟨rfl, unhide HB⟩

set_option maxRecDepth 100000 in
set_option maxHeartbeats 8000000 in
theorem FitsC_of (k : Int) (a b : Tree) (oa ob : Bool) (ks : List TS) (IH : ∀ u ∈ ks, FitsC u) : FitsC (.mk k a b oa ob ks) := by
  intro w q ty d hM hw
  rw [MemS] at hM
  obtain ⟨hkl, a0, a1, a2, a3, a4, a5, b0, b1, b2, b3, b4, b5, ad, cap, ha, hb, rfl, hks⟩ := hM
  have h4 : ¬ 4 < d := by
    intro h
    rw [ws_much h] at hw
    cases hw
  have hk : ¬ (k < 1 ∨ 9 < k) := by
    intro h
    rw [ws_kind h4 h] at hw
    cases hw
  by_cases k1 : k = 1
  · subst k1
    rw [fitsS, if_pos rfl]
    clear IH hks ha hb
    go_enter Tryz.func81, Tryz.ntmps81
    go_wp2
    go_ret
    exact ⟨rfl, vbelow_new _ _⟩
  by_cases k8 : k = 8
  · subst k8
    exact FitsC_k8 a b oa ob ks IH w _ ty d (by rw [MemS]; exact ⟨hkl, _, _, _, _, _, _, _, _, _, _, _, _, ad, cap, ha, hb, rfl, hks⟩) hw
  by_cases k9 : k = 9
  · subst k9
    exact FitsC_k9 a b oa ob ks IH w _ ty d (by rw [MemS]; exact ⟨hkl, _, _, _, _, _, _, _, _, _, _, _, _, ad, cap, ha, hb, rfl, hks⟩) hw
  · obtain rfl := ha.kd0
    rw [fitsS, if_neg k1, if_neg (by omega)]
    have va : valW a = 0 := by
      by_cases k2 : k = 2
      · subst k2; rw [ws_is h4] at hw; exact hw
      by_cases k7 : k = 7
      · subst k7; rw [ws_in h4] at hw; exact (twoW0 hw).1
      · rw [ws_one h4 (by omega)] at hw; exact oneW0 hw
    exact tfits_leaf k (by omega) a.kd (valW_kd va) ty _ _ _ _ _ _ _ _ _ _ _ _ _ _ w

mutual
theorem FitsC_all : ∀ T : TS, FitsC T
  | .mk k a b oa ob ks => FitsC_of k a b oa ob ks (fun u h => FitsC_alls ks u h)
theorem FitsC_alls : ∀ (ks : List TS) (u : TS), u ∈ ks → FitsC u
  | [], u, h => by cases h
  | v :: vs, u, h => by
    by_cases e : u = v
    · rw [e]; exact FitsC_all v
    · exact FitsC_alls vs u ((List.mem_cons.1 h).resolve_left e)
end

end Go.Proofs.YtnegjbkbfgkkjaaGreatDoor

/- Walks: Fits of a right test. -/
namespace Go.Proofs.YtnegjbkbfgkkjaaGreatDoor
open Go.RowKit

set_option maxHeartbeats 4000000 in
theorem trFits_any (T : TS) (q : Array Value) (ty : Int) (sv : Value) (B : Nat) (w : World) (hB : B ≤ w.heap.size) (hM : MemS B w T q) (hT : TabsIn B w) (hw : wrongS T 1 = 0) :
    Calls Tryz.prog 65 #[.agg q, .agg #[.int .i64 ty, sv]] w fun e w' => e = .returned (.bool (fitsS T ty)) ∧ Below w.heap.size w w' := by
  have C := hide (fun wx (hb : Below w.heap.size w wx) => trWrong_any T q B wx (Nat.le_trans hB hb.size) (MemS.below (hb.mono hB) hM) (hT.below (hb.mono hB)))
  have K := hide (fun wx (hb : Below w.heap.size w wx) => FitsC_all T wx q ty 1 (MemS.mono (Nat.le_trans hB hb.size) (MemS.below (hb.mono hB) hM)) hw)
  rw [hw] at C
  generalize fitsS T ty = F at *
  obtain ⟨k, a, b, oa, ob, ks⟩ := T
  rw [MemS] at hM
  obtain ⟨_, a0, a1, a2, a3, a4, a5, b0, b1, b2, b3, b4, b5, ad, cap, _, _, rfl, _⟩ := hM
  clear hT hw
  go_enter Tryz.func65, Tryz.ntmps65
  go_wp2_with fail
  refine (unhide C _ (bv (vbelow_new _ _) (vbelow_new _ _))).mono ?_
  rintro e w1 ⟨rfl, hb⟩
  have HW := hide (bv (bv (vbelow_new _ _) (vbelow_new _ _)) hb)
  obtain ⟨x0, x1, x2, x3, x4, x5, x6, x7, x8, x9, x10, x11, x12, x13, x14, x15⟩ := (B16.new.over.keep hb (by simp; omega)).tell
  have Y : B16 w1 (w.heap.size + 1) #[.int .i64 ty, sv] := by
    have := (B16.new (w := w.alloc (.cells #[.int .i64 k, a0, a1, a2, a3, a4, a5, b0, b1, b2, b3, b4, b5, .bool oa, .bool ob, .slice ad ks.length cap] 83)) (t := 114) (u := #[.int .i64 ty, sv])).keep hb (by simp)
    simpa using this
  have y0 := Y.cell 0 _ rfl
  clear hb C Y
  go_wp2_with fail
  refine (unhide K _ (unhide HW)).mono ?_
  rintro e w2 ⟨rfl, hb⟩
  have H2 := hide (bv (unhide HW) hb)
  clear hb HW K x0 x1 x2 x3 x4 x5 x6 x7 x8 x9 x10 x11 x12 x13 x14 x15 y0
  go_wp2
  go_ret
  exact ⟨rfl, unhide H2⟩
end Go.Proofs.YtnegjbkbfgkkjaaGreatDoor
