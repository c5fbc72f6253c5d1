/- Walks: what is wrong with any test, as the program tells. -/
import Derived.Test.YtcidbhegnnedoaaGreatDoorG20
import Derived.Test.YtcidbhegnnedoaaGreatDoorG08
namespace Go.Proofs.YtcidbhegnnedoaaGreatDoor
open Go.RowKit

/-- what wrongAt tells of a test -/
def WrongSC (T : TS) : Prop := ∀ (B : Nat) (w : World) (v : Array Value) (d : Nat), MemS B w T v → B ≤ w.heap.size → TabsIn B w → d ≤ 5 →
  Calls Tryz.prog 15 #[.agg v, .int .i64 (d : Int)] w fun e w' => e = .returned (.int .i64 (wrongS T d)) ∧ Below w.heap.size w w'

theorem wrongSL_ok {u : TS} {us : List TS} {d : Nat} (h : wrongS u d = 0) : wrongSL (u :: us) d = wrongSL us d := by rw [wrongSL, if_pos h]
theorem wrongSL_no {u : TS} {us : List TS} {d : Nat} (h : ¬ wrongS u d = 0) : wrongSL (u :: us) d = wrongS u d := by rw [wrongSL, if_neg h]
theorem wrongSL_nil (d : Nat) : wrongSL [] d = 0 := by rw [wrongSL]

set_option maxHeartbeats 1000000 in
theorem wrongKids_no (n : Nat) (a : Option Addr) (cap : Nat) (w : World) (d : Int) (h : n < 1 ∨ 20 < n) :
    Calls Tryz.prog 27 #[.slice a n cap, .int .i64 d] w fun e w' => e = .returned (.int .i64 5) ∧ Below w.heap.size w w' := by
  rcases h with h | h
  · obtain rfl : n = 0 := by omega
    go_enter Tryz.func27, Tryz.ntmps27
    go_wp2
    go_ret
    exact ⟨rfl, Below.refl _ _⟩
  · have h1 : ¬ (n : Int) < 1 := by omega
    have h2 : (20 : Int) < (n : Int) := by omega
    go_enter Tryz.func27, Tryz.ntmps27
    go_wp2
    go_ret
    exact ⟨rfl, Below.refl _ _⟩

set_option maxHeartbeats 4000000 in
theorem wrongKids_of (ks : List TS) (IH : ∀ u ∈ ks, WrongSC u) (B : Nat) (w : World) (b off cap d : Nat) (hm : MemSL B w ks b off) (hlt : b < B) (h1 : ¬ ks.length < 1) (h2 : ¬ 20 < ks.length) (hB : B ≤ w.heap.size) (hT : TabsIn B w) (hd : d ≤ 5) :
    Calls Tryz.prog 27 #[.slice (some ⟨b, off, none⟩) ks.length cap, .int .i64 (d : Int)] w fun e w' => e = .returned (.int .i64 (wrongSL ks d)) ∧ Below w.heap.size w w' := by
  have g1 : ¬ (ks.length : Int) < 1 := by omega
  have g2 : ¬ (20 : Int) < (ks.length : Int) := by omega
  have IH' := hide IH
  have hm' := hide hm
  have HT := hide hT
  clear IH hm hT
  go_enter Tryz.func27, Tryz.ntmps27
  go_wp2
  go_loopw [18] (fun i wr => ∃ m : Nat, m ≤ ks.length ∧ i = .int .i64 (m : Int) ∧ Hid (wrongSL ks d = wrongSL (ks.drop m) d) ∧ Hid (Below w.heap.size w wr)) (fun i _ => ks.length - (intOf i).toNat)
  case atStart => exact ⟨0, Nat.zero_le _, rfl, hide rfl, hide (Below.refl _ _)⟩
  case round =>
    obtain ⟨m, hml, rfl, H, HB⟩ := hrel
    by_cases hlt2 : m < ks.length
    · have hi1 : (m : Int) < (ks.length : Int) := by omega
      obtain ⟨u, hu⟩ : ∃ u, ks[m]? = some u := ⟨_, List.getElem?_eq_getElem hlt2⟩
      have hdrop := sdrop_at hlt2 hu
      have HU := hide (unhide IH' u (List.mem_of_getElem? hu))
      obtain ⟨cs, h6, hmu⟩ := MemSL.at (MemSL.below ((unhide HB).mono hB) hlt (unhide hm')) m u hu
      have HM := hide hmu
      rw [hdrop] at H
      cases u with
      | mk k ta tb oa ob kk =>
        rw [MemS] at hmu
        obtain ⟨_, d0, d1, d2, d3, d4, d5, e0, e1, e2, e3, e4, e5, ad', cp, hta, htb, rfl, _⟩ := hmu
        obtain ⟨y1, r1, x1, t1, l1, n1, p1, rfl, rfl, rfl, rfl, rfl, rfl⟩ := hta.six
        obtain ⟨y2, r2, x2, t2, l2, n2, p2, rfl, rfl, rfl, rfl, rfl, rfl⟩ := htb.six
        clear hta htb
        obtain ⟨c0, c1, c2, c3, c4, c5, c6, c7, c8, c9, c10, c11, c12, c13, c14, c15⟩ := h6.tell
        clear hu hdrop h6
        go_wp2_with fail
        have hba := vbelow_new wr (.cells #[.int .i64 k, .int .i64 ta.kd, .bool y1, .int .i64 r1, .int .i64 x1, .string t1, .slice l1 n1 p1, .int .i64 tb.kd, .bool y2, .int .i64 r2, .int .i64 x2, .string t2, .slice l2 n2 p2, .bool oa, .bool ob, .slice ad' kk.length cp] 29)
        have hbw := bv (unhide HB) hba
        refine (unhide HU B _ _ d (MemS.below (hba.mono (Nat.le_trans hB (unhide HB).size)) (unhide HM)) (Nat.le_trans hB hbw.size) ((unhide HT).below (hbw.mono hB)) hd).mono ?_
        rintro e w2 ⟨rfl, hb2⟩
        have HB2 := hide (bv hbw hb2)
        clear hb2 hba hbw HB HM c0 c1 c2 c3 c4 c5 c6 c7 c8 c9 c10 c11 c12 c13 c14 c15
        by_cases hr : wrongS (.mk k ta tb oa ob kk) d = 0
        · have hz : (wrongS (.mk k ta tb oa ob kk) d != 0) = false := by simp [hr]
          have H2 := hide ((unhide H).trans (wrongSL_ok (us := ks.drop (m + 1)) hr))
          generalize wrongS (.mk k ta tb oa ob kk) d = R at *
          clear hr H
          go_wp2
          go_round
          case rel => exact ⟨m + 1, by omega, by go_num, H2, HB2⟩
          case measure => simp [intOf]; omega
        · have hz : (wrongS (.mk k ta tb oa ob kk) d != 0) = true := by simp [hr]
          have H2 := hide ((unhide H).trans (wrongSL_no (us := ks.drop (m + 1)) hr))
          generalize wrongS (.mk k ta tb oa ob kk) d = R at *
          clear hr H
          go_wp2
          go_ret
          rw [unhide H2]
          exact ⟨rfl, unhide HB2⟩
    · obtain rfl : m = ks.length := by omega
      have H2 : Hid (wrongSL ks d = 0) := by
        have h := unhide H
        rw [List.drop_length, wrongSL_nil] at h
        exact hide h
      go_wp2
      go_ret
      rw [unhide H2]
      exact ⟨rfl, unhide HB⟩

theorem ws_much {k : Int} {a b : Tree} {oa ob : Bool} {ks : List TS} {d : Nat} (h : 4 < d) : wrongS (.mk k a b oa ob ks) d = 4 := by rw [wrongS, if_pos h]
theorem ws_kind {k : Int} {a b : Tree} {oa ob : Bool} {ks : List TS} {d : Nat} (h : ¬ 4 < d) (hk : k < 1 ∨ 9 < k) : wrongS (.mk k a b oa ob ks) d = 1 := by rw [wrongS, if_neg h, if_pos hk]
theorem ws_kids {k : Int} {a b : Tree} {oa ob : Bool} {ks : List TS} {d : Nat} (h : ¬ 4 < d) (hk : k = 8 ∨ k = 9) : wrongS (.mk k a b oa ob ks) d = if ks.length < 1 ∨ 20 < ks.length then 5 else wrongSL ks (d + 1) := by rw [wrongS, if_neg h, if_neg (by omega), if_pos hk]
theorem ws_any {a b : Tree} {oa ob : Bool} {ks : List TS} {d : Nat} (h : ¬ 4 < d) : wrongS (.mk 1 a b oa ob ks) d = 0 := by rw [wrongS, if_neg h, if_neg (by omega), if_neg (by omega), if_pos rfl]
theorem ws_is {a b : Tree} {oa ob : Bool} {ks : List TS} {d : Nat} (h : ¬ 4 < d) : wrongS (.mk 2 a b oa ob ks) d = valW a := by rw [wrongS, if_neg h, if_neg (by omega), if_neg (by omega), if_neg (by omega), if_pos rfl]
theorem ws_in {a b : Tree} {oa ob : Bool} {ks : List TS} {d : Nat} (h : ¬ 4 < d) : wrongS (.mk 7 a b oa ob ks) d = twoW a b := by rw [wrongS, if_neg h, if_neg (by omega), if_neg (by omega), if_neg (by omega), if_neg (by omega), if_pos rfl]
theorem ws_one {k : Int} {a b : Tree} {oa ob : Bool} {ks : List TS} {d : Nat} (h : ¬ 4 < d) (hk : k = 3 ∨ k = 4 ∨ k = 5 ∨ k = 6) : wrongS (.mk k a b oa ob ks) d = oneW a := by rw [wrongS, if_neg h, if_neg (by omega), if_neg (by omega), if_neg (by omega), if_neg (by omega), if_neg (by omega)]

theorem Mem.kd0 {B : Nat} {w : World} {T : Tree} {a0 a1 a2 a3 a4 a5 : Value} (h : Mem B w T #[a0, a1, a2, a3, a4, a5]) : a0 = .int .i64 T.kd := by
  obtain ⟨_, _, _, _, _, _, _, e, _⟩ := h.six
  exact e
theorem TabsIn.mono {B B' : Nat} {w : World} (h : TabsIn B w) (l : B ≤ B') : TabsIn B' w := ⟨h.1, Nat.lt_of_lt_of_le h.2.1 l, Nat.lt_of_lt_of_le h.2.2 l⟩

set_option maxHeartbeats 8000000 in
theorem wrongAt_of (k : Int) (a b : Tree) (oa ob : Bool) (ks : List TS) (IH : ∀ u ∈ ks, WrongSC u) : WrongSC (.mk k a b oa ob ks) := by
  intro B w v d hM hB hT hd
  rw [MemS] at hM
  obtain ⟨hkl, a0, a1, a2, a3, a4, a5, b0, b1, b2, b3, b4, b5, ad, cap, ha, hb, rfl, hks⟩ := hM
  have NB := hide (vbelow_new w (.cells #[.int .i64 k, a0, a1, a2, a3, a4, a5, b0, b1, b2, b3, b4, b5, .bool oa, .bool ob, .slice ad ks.length cap] 29))
  have HA := hide ha
  have HBB := hide hb
  have HK := hide hks
  have HT := hide hT
  have IH' := hide IH
  clear ha hb hks hT IH
  by_cases h1 : 4 < d
  · rw [ws_much h1]
    have h1' : (4 : Int) < (d : Int) := by omega
    go_enter Tryz.func15, Tryz.ntmps15
    go_wp2
    go_ret
    exact ⟨rfl, unhide NB⟩
  have h1' : ¬ (4 : Int) < (d : Int) := by omega
  by_cases k1 : k = 1
  · subst k1
    rw [ws_any h1]
    go_enter Tryz.func15, Tryz.ntmps15
    go_wp2
    go_ret
    exact ⟨rfl, unhide NB⟩
  by_cases k2 : k = 2
  · subst k2
    rw [ws_is h1]
    go_enter Tryz.func15, Tryz.ntmps15
    go_wp2_with fail
    refine (wrongValue_any a _ B _ (Nat.le_trans hB (unhide NB).size) (Mem.below ((unhide NB).mono hB) (unhide HA)) ((unhide HT).below ((unhide NB).mono hB))).mono ?_
    rintro e w1 ⟨rfl, hb1⟩
    have HB1 := hide (bv (unhide NB) hb1)
    clear hb1
    go_wp2
    go_ret
    exact ⟨rfl, unhide HB1⟩
  by_cases k4 : k = 3 ∨ k = 4 ∨ k = 5 ∨ k = 6
  · rw [ws_one h1 k4, ← oneW_is]
    have BC : Hid (∀ W, Below w.heap.size w W → W.heap.size = w.heap.size + 1 → Calls Tryz.prog 26 #[.slice (some ⟨w.heap.size + 1, 0, none⟩) 1 1] (W.alloc (.cells #[a0, a1, a2, a3, a4, a5] 26)) fun e w' => e = .returned (.int .i64 (boundsW a.kd [a])) ∧ Below (W.alloc (.cells #[a0, a1, a2, a3, a4, a5] 26)).heap.size (W.alloc (.cells #[a0, a1, a2, a3, a4, a5] 26)) w') := hide (fun W hN hs => by
      have q := bounds_any a.kd [a] (W.alloc (.cells #[a0, a1, a2, a3, a4, a5] 26)) (W.heap.size + 1) W.heap.size (by rw [← (unhide HA).kd0]; simp [go_sem]) (by simp) (by omega)
        (by
          have hM := Mem.mono (Nat.le_trans hB (Nat.le_trans hN.size (Nat.le_succ _))) (Mem.below ((bv hN (vbelow_new W (.cells #[a0, a1, a2, a3, a4, a5] 26))).mono hB) (unhide HA))
          rw [MemL, MemL]
          exact ⟨⟨_, ⟨a0, a1, a2, a3, a4, a5, rfl, by simp [go_sem], by simp [go_sem], by simp [go_sem], by simp [go_sem], by simp [go_sem], by simp [go_sem]⟩, hM⟩, trivial⟩) (by simp) (by simp)
        (((unhide HT).below ((bv hN (vbelow_new W (.cells #[a0, a1, a2, a3, a4, a5] 26))).mono hB)).mono (Nat.le_trans hB (Nat.le_trans hN.size (Nat.le_succ _))))
      rw [hs] at q
      exact q)
    generalize boundsW a.kd [a] = R at *
    rcases k4 with rfl | rfl | rfl | rfl
    all_goals
      go_enter Tryz.func15, Tryz.ntmps15
      go_wp2_with fail
      refine (unhide BC _ (unhide NB) (by simp)).mono ?_
      rintro e w1 ⟨rfl, hb1⟩
      have HB1 := hide (bv (bv (unhide NB) (vbelow_new _ _)) hb1)
      clear hb1
      go_wp2
      go_ret
      exact ⟨rfl, unhide HB1⟩
  by_cases k7 : k = 7
  · subst k7
    rw [ws_in h1, ← twoW_is]
    have BC : Hid (∀ W, Below w.heap.size w W → W.heap.size = w.heap.size + 1 → Calls Tryz.prog 26 #[.slice (some ⟨w.heap.size + 1, 0, none⟩) 2 2] (W.alloc (.cells #[a0, a1, a2, a3, a4, a5, b0, b1, b2, b3, b4, b5] 26)) fun e w' => e = .returned (.int .i64 (boundsW a.kd [a, b])) ∧ Below (W.alloc (.cells #[a0, a1, a2, a3, a4, a5, b0, b1, b2, b3, b4, b5] 26)).heap.size (W.alloc (.cells #[a0, a1, a2, a3, a4, a5, b0, b1, b2, b3, b4, b5] 26)) w') := hide (fun W hN hs => by
      have q := bounds_any a.kd [a, b] (W.alloc (.cells #[a0, a1, a2, a3, a4, a5, b0, b1, b2, b3, b4, b5] 26)) (W.heap.size + 1) W.heap.size (by rw [← (unhide HA).kd0]; simp [go_sem]) (by simp) (by omega)
        (by
          have hM := Mem.mono (Nat.le_trans hB (Nat.le_trans hN.size (Nat.le_succ _))) (Mem.below ((bv hN (vbelow_new W (.cells #[a0, a1, a2, a3, a4, a5, b0, b1, b2, b3, b4, b5] 26))).mono hB) (unhide HA))
          have hM2 := Mem.mono (Nat.le_trans hB (Nat.le_trans hN.size (Nat.le_succ _))) (Mem.below ((bv hN (vbelow_new W (.cells #[a0, a1, a2, a3, a4, a5, b0, b1, b2, b3, b4, b5] 26))).mono hB) (unhide HBB))
          rw [MemL, MemL, MemL]
          exact ⟨⟨_, ⟨a0, a1, a2, a3, a4, a5, rfl, by simp [go_sem], by simp [go_sem], by simp [go_sem], by simp [go_sem], by simp [go_sem], by simp [go_sem]⟩, hM⟩, ⟨_, ⟨b0, b1, b2, b3, b4, b5, rfl, by simp [go_sem], by simp [go_sem], by simp [go_sem], by simp [go_sem], by simp [go_sem], by simp [go_sem]⟩, hM2⟩, trivial⟩) (by simp) (by simp)
        (((unhide HT).below ((bv hN (vbelow_new W (.cells #[a0, a1, a2, a3, a4, a5, b0, b1, b2, b3, b4, b5] 26))).mono hB)).mono (Nat.le_trans hB (Nat.le_trans hN.size (Nat.le_succ _))))
      rw [hs] at q
      exact q)
    generalize boundsW a.kd [a, b] = R at *
    go_enter Tryz.func15, Tryz.ntmps15
    go_wp2_with fail
    refine (unhide BC _ (unhide NB) (by simp)).mono ?_
    rintro e w1 ⟨rfl, hb1⟩
    have HB1 := hide (bv (bv (unhide NB) (vbelow_new _ _)) hb1)
    clear hb1
    go_wp2
    go_ret
    exact ⟨rfl, unhide HB1⟩
  by_cases k8 : k = 8 ∨ k = 9
  · rw [ws_kids h1 k8]
    have WK : ∀ wx, Below w.heap.size w wx → Calls Tryz.prog 27 #[.slice ad ks.length cap, .int .i64 ((d : Int) + 1)] wx fun e w' => e = .returned (.int .i64 (if ks.length < 1 ∨ 20 < ks.length then 5 else wrongSL ks (d + 1))) ∧ Below wx.heap.size wx w' := by
      intro wx hx
      by_cases hn : ks.length < 1 ∨ 20 < ks.length
      · rw [if_pos hn]
        exact wrongKids_no _ _ _ _ _ hn
      · rw [if_neg hn]
        obtain ⟨bl, off, rfl, hlt, hm⟩ := unhide HK (by intro e; rw [e] at hn; simp at hn)
        have C := wrongKids_of ks (unhide IH') B wx bl off cap (d + 1) (MemSL.below (hx.mono hB) hlt hm) hlt (by omega) (by omega) (Nat.le_trans hB hx.size) ((unhide HT).below (hx.mono hB)) (by omega)
        rw [show ((d + 1 : Nat) : Int) = (d : Int) + 1 by omega] at C
        exact C
    replace WK := hide WK
    generalize (if ks.length < 1 ∨ 20 < ks.length then (5 : Int) else wrongSL ks (d + 1)) = R at *
    rcases k8 with rfl | rfl
    all_goals
      go_enter Tryz.func15, Tryz.ntmps15
      go_wp2_with fail
      refine (unhide WK _ (unhide NB)).mono ?_
      rintro e w1 ⟨rfl, hb1⟩
      have HB1 := hide (bv (unhide NB) hb1)
      clear hb1
      go_wp2
      go_ret
      exact ⟨rfl, unhide HB1⟩
  · rw [ws_kind h1 (by omega)]
    have n1 : (k == 1) = false := by simpa using k1
    have n2 : (k == 2) = false := by simpa using k2
    have n3 : (k == 3) = false := by simp; omega
    have n4 : (k == 4) = false := by simp; omega
    have n5 : (k == 5) = false := by simp; omega
    have n6 : (k == 6) = false := by simp; omega
    have n7 : (k == 7) = false := by simpa using k7
    have n8 : (k == 8) = false := by simp; omega
    have n9 : (k == 9) = false := by simp; omega
    go_enter Tryz.func15, Tryz.ntmps15
    go_wp2
    go_ret
    exact ⟨rfl, unhide NB⟩

mutual
theorem wrongS_all : ∀ T : TS, WrongSC T
  | .mk k a b oa ob ks => wrongAt_of k a b oa ob ks (fun u h => wrongS_alls ks u h)
theorem wrongS_alls : ∀ (ks : List TS) (u : TS), u ∈ ks → WrongSC u
  | [], u, h => by cases h
  | v :: vs, u, h => by
    by_cases e : u = v
    · rw [e]; exact wrongS_all v
    · exact wrongS_alls vs u ((List.mem_cons.1 h).resolve_left e)
end

set_option maxHeartbeats 1000000 in
theorem tWrong_any (T : TS) (v : Array Value) (B : Nat) (w : World) (hB : B ≤ w.heap.size) (hM : MemS B w T v) (hT : TabsIn B w) :
    Calls Tryz.prog 6 #[.agg v] w fun e w' => e = .returned (.int .i64 (wrongS T 1)) ∧ Below w.heap.size w w' := by
  have C := hide (fun wx (hb : Below w.heap.size w wx) => wrongS_all T B wx v 1 (MemS.below (hb.mono hB) hM) (Nat.le_trans hB hb.size) (hT.below (hb.mono hB)) (by omega))
  obtain ⟨k, a, b, oa, ob, ks⟩ := T
  rw [MemS] at hM
  obtain ⟨_, a0, a1, a2, a3, a4, a5, b0, b1, b2, b3, b4, b5, ad, cap, _, _, rfl, _⟩ := hM
  clear hT
  go_enter Tryz.func6, Tryz.ntmps6
  go_wp2_with fail
  refine (unhide C _ (vbelow_new _ _)).mono ?_
  rintro e w1 ⟨rfl, hb⟩
  have HB := hide (bv (vbelow_new w _) hb)
  clear hb
  go_wp2
  go_ret
  exact ⟨rfl, unhide HB⟩
end Go.Proofs.YtcidbhegnnedoaaGreatDoor

/- Walks: the program's Less of any two values. -/
namespace Go.Proofs.YtcidbhegnnedoaaGreatDoor
open Go.RowKit

theorem told_yes (b : Bool) : (Value.agg #[.int .i64 2, .bool b, .int .i64 0, .int .i64 0, .string ⟨#[]⟩, .slice none 0 0]) = told (if b = true then 2 else 0) := by cases b <;> rfl

set_option maxHeartbeats 2000000 in
theorem less_null (k : Int) (y : Bool) (c x : Int) (t : ByteArray) (l : Value) (k' : Int) (y' : Bool) (c' x' : Int) (t' : ByteArray) (l' : Value) (w : World) (h3 : ¬ (k = k' ∧ k = 3)) (h4 : ¬ (k = k' ∧ k = 4)) :
    Calls Tryz.prog 39 #[.agg #[.int .i64 k, .bool y, .int .i64 c, .int .i64 x, .string t, l], .agg #[.int .i64 k', .bool y', .int .i64 c', .int .i64 x', .string t', l']] w fun e w' => e = .returned (told 1) ∧ Below w.heap.size w w' := by
  by_cases e : k = k'
  · subst e
    have n3 : ¬ k = 3 := fun q => h3 ⟨rfl, q⟩
    have n4 : ¬ k = 4 := fun q => h4 ⟨rfl, q⟩
    clear h3 h4
    go_enter Tryz.func39, Tryz.ntmps39
    go_wp2_with fail
    refine (null_any _).mono ?_
    rintro e w9 ⟨rfl, hb⟩
    obtain ⟨_, _, R, hw⟩ := box3 hb
    clear hb
    obtain ⟨a0, a1, a2, a3, a4, a5⟩ := R.tell
    obtain ⟨f0, f1, f2, f3, f4, f5⟩ := R.thaw
    have lb := R.low
    go_wp2
    exact bodyPost_ret (v := told 1) (by simp [results, Tryz.results39, go_sem, a0, a1, a2, a3, a4, a5, kd, yd]) rfl ⟨rfl, ((((((hw.setCell (by simp; omega) _).setCell (by simp; omega) _).setCell (by simp; omega) _).setCell (by simp; omega) _).setCell (by simp; omega) _).setCell (by simp; omega) _)⟩
  · have e' : (k != k') = true := by simp [e]
    clear h3 h4
    go_enter Tryz.func39, Tryz.ntmps39
    go_wp2_with fail
    refine (null_any _).mono ?_
    rintro e w9 ⟨rfl, hb⟩
    obtain ⟨_, _, R, hw⟩ := box3 hb
    clear hb
    obtain ⟨a0, a1, a2, a3, a4, a5⟩ := R.tell
    obtain ⟨f0, f1, f2, f3, f4, f5⟩ := R.thaw
    have lb := R.low
    go_wp2
    exact bodyPost_ret (v := told 1) (by simp [results, Tryz.results39, go_sem, a0, a1, a2, a3, a4, a5, kd, yd]) rfl ⟨rfl, ((((((hw.setCell (by simp; omega) _).setCell (by simp; omega) _).setCell (by simp; omega) _).setCell (by simp; omega) _).setCell (by simp; omega) _).setCell (by simp; omega) _)⟩

theorem less_any (A B : Tree) (v u : Array Value) (b b' : Nat) (w : World) (hM : Mem b w A v) (hM' : Mem b' w B u) (hA : (wrongF A 0 1).1 = 0) (hB : (wrongF B 0 1).1 = 0) :
    Calls Tryz.prog 39 #[.agg v, .agg u] w fun e w' => e = .returned (told (lessH A B)) ∧ Below w.heap.size w w' := by
  obtain ⟨k, y, c, x, t, ks⟩ := A
  obtain ⟨k', y', c', x', t', ks'⟩ := B
  rw [Mem] at hM hM'
  obtain ⟨_, _, a, cap, rfl, _⟩ := hM
  obtain ⟨_, _, a', cap', rfl, _⟩ := hM'
  rw [lessH]
  by_cases h3 : k = k' ∧ k = 3
  · rw [if_pos h3]
    obtain ⟨rfl, rfl⟩ := h3
    rw [wf_num (by omega)] at hA hB
    have q := less_num y y' c x c' x' (.string t) (.slice a ks.length cap) (.string t') (.slice a' ks'.length cap') w hA hB
    rw [told_yes] at q
    simpa only [decide_eq_true_eq] using q
  · rw [if_neg h3]
    by_cases h4 : k = k' ∧ k = 4
    · rw [if_pos h4]
      obtain ⟨rfl, rfl⟩ := h4
      have q := less_text y y' c x c' x' t t' (.slice a ks.length cap) (.slice a' ks'.length cap') w
      rw [told_yes] at q
      exact q
    · rw [if_neg h4]
      exact less_null k y c x t _ k' y' c' x' t' _ w h3 h4
end Go.Proofs.YtcidbhegnnedoaaGreatDoor
