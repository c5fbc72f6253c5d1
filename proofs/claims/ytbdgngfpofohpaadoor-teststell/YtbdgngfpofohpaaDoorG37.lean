/- Walks: what the document tells is wrong with any test. -/
import Derived.Test.YtbdgngfpofohpaaDoorG26
import Derived.Test.YtbdgngfpofohpaaDoorG36
import Derived.Test.YtbdgngfpofohpaaDoorG30
import Derived.Test.YtbdgngfpofohpaaDoorG32
import Derived.Test.YtbdgngfpofohpaaDoorG35
import Derived.Test.YtbdgngfpofohpaaDoorG20
import Derived.Test.YtbdgngfpofohpaaDoorG24
namespace Go.Proofs.YtbdgngfpofohpaaDoor
open Go.RowKit

/-- what the document's wrong tells of a test -/
def RWrongSC (T : TS) : Prop := ∀ (w : World) (v : Array Value) (d : Nat), MemS w.heap.size w T v → d ≤ 5 →
  Calls Tryd.prog 14 #[.agg v, .int .i64 (d : Int)] w fun e w' => e = .returned (.int .i64 (wrongS T d)) ∧ Below w.heap.size w w'

theorem twoW_no {a b : Tree} (h : ¬ valW a = 0) : twoW a b = valW a := by unfold twoW; rw [if_neg h]
theorem twoW_no2 {a b : Tree} (h : valW a = 0) (g : ¬ valW b = 0) : twoW a b = valW b := by unfold twoW; rw [if_pos h, if_neg g]
theorem twoW_ok {a b : Tree} (h : valW a = 0) (g : valW b = 0) : twoW a b = if a.kd = 3 ∨ a.kd = 4 then (if b.kd = a.kd then 0 else 9) else 9 := by unfold twoW; rw [if_pos h, if_pos g]
theorem oneW_no {a : Tree} (h : ¬ valW a = 0) : oneW a = valW a := by unfold oneW; rw [if_neg h]
theorem oneW_ok {a : Tree} (h : valW a = 0) : oneW a = if a.kd = 3 ∨ a.kd = 4 then 0 else 9 := by unfold oneW; rw [if_pos h]

set_option maxRecDepth 100000 in
set_option maxHeartbeats 8000000 in
theorem rwrong_of (k : Int) (a b : Tree) (oa ob : Bool) (ks : List TS) (IH : ∀ u ∈ ks, RWrongSC u) : RWrongSC (.mk k a b oa ob ks) := by
  intro w v d hM hd
  rw [MemS] at hM
  obtain ⟨hkl, a0, a1, a2, a3, a4, a5, b0, b1, b2, b3, b4, b5, ad, cap, ha, hb, rfl, hks⟩ := hM
  obtain rfl := ha.kd0
  obtain rfl := hb.kd0
  have NB := hide (vbelow_new w (.cells #[.int .i64 k, .int .i64 a.kd, a1, a2, a3, a4, a5, .int .i64 b.kd, b1, b2, b3, b4, b5, .bool oa, .bool ob, .slice ad ks.length cap] 29))
  have XB := hide (B16.new (w := w) (t := 29) (u := #[.int .i64 k, .int .i64 a.kd, a1, a2, a3, a4, a5, .int .i64 b.kd, b1, b2, b3, b4, b5, .bool oa, .bool ob, .slice ad ks.length cap]))
  have VA := hide (fun wx (hx : Below w.heap.size w wx) => rvalue_any a _ wx (Mem.mono hx.size (Mem.below hx ha)))
  have VB := hide (fun wx (hx : Below w.heap.size w wx) => rvalue_any b _ wx (Mem.mono hx.size (Mem.below hx hb)))
  have HK := hide hks
  have IH' := hide IH
  clear ha hb hks IH
  by_cases h1 : 4 < d
  · rw [ws_much h1]
    have h1' : (4 : Int) < (d : Int) := by omega
    go_enter Tryd.func14, Tryd.ntmps14
    go_wp2
    go_ret
    exact ⟨rfl, unhide NB⟩
  have h1' : ¬ (4 : Int) < (d : Int) := by omega
  by_cases hk : k < 1 ∨ 9 < k
  · rw [ws_kind h1 hk]
    rcases hk with hk | hk
    · go_enter Tryd.func14, Tryd.ntmps14
      go_wp2
      go_ret
      exact ⟨rfl, unhide NB⟩
    · have hk' : ¬ k < 1 := by omega
      go_enter Tryd.func14, Tryd.ntmps14
      go_wp2
      go_ret
      exact ⟨rfl, unhide NB⟩
  by_cases k8 : k = 8 ∨ k = 9
  · rw [ws_kids h1 k8]
    have g8 : (8 : Int) ≤ k := by omega
    have g9 : ¬ (9 : Int) < k := by omega
    have g1 : ¬ k < 1 := by omega
    clear hk k8 VA VB
    by_cases hn : ks.length < 1 ∨ 20 < ks.length
    · rw [if_pos hn]
      rcases hn with hn | hn
      · have hn' : ((ks.length : Int) == 0) = true := by rw [beq_iff_eq]; omega
        go_enter Tryd.func14, Tryd.ntmps14
        go_wp2
        go_ret
        exact ⟨rfl, unhide NB⟩
      · have hn' : ((ks.length : Int) == 0) = false := by rw [beq_eq_false_iff_ne]; omega
        have hn2 : (20 : Int) < (ks.length : Int) := by omega
        go_enter Tryd.func14, Tryd.ntmps14
        go_wp2
        go_ret
        exact ⟨rfl, unhide NB⟩
    · rw [if_neg hn]
      have hn' : ((ks.length : Int) == 0) = false := by rw [beq_eq_false_iff_ne]; omega
      have hn2 : ¬ (20 : Int) < (ks.length : Int) := by omega
      obtain ⟨bl, off, rfl, hlt, hm⟩ := unhide HK (by intro e; rw [e] at hn; simp at hn)
      have hm' := hide hm
      clear hm HK
      go_enter Tryd.func14, Tryd.ntmps14
      go_wp2
      go_loopw [37] (fun i wr => ∃ m : Nat, m ≤ ks.length ∧ i = .int .i64 (m : Int) ∧ Hid (wrongSL ks (d + 1) = wrongSL (ks.drop m) (d + 1)) ∧ Hid (Below w.heap.size w wr)) (fun i _ => ks.length - (intOf i).toNat)
      case atStart => exact ⟨0, Nat.zero_le _, rfl, hide rfl, NB⟩
      case round =>
        obtain ⟨m, hml, rfl, H, HB⟩ := hrel
        by_cases hlt2 : m < ks.length
        · have hi1 : (m : Int) < (ks.length : Int) := by omega
          obtain ⟨u, hu⟩ : ∃ u, ks[m]? = some u := ⟨_, List.getElem?_eq_getElem hlt2⟩
          have hdrop := sdrop_at hlt2 hu
          have HU := hide (unhide IH' u (List.mem_of_getElem? hu))
          obtain ⟨cs, h6, hmu⟩ := MemSL.at (MemSL.below (unhide HB) hlt (unhide hm')) m u hu
          have HM := hide hmu
          rw [hdrop] at H
          cases u with
          | mk k' ta tb oa' ob' kk =>
            rw [MemS] at hmu
            obtain ⟨_, d0, d1, d2, d3, d4, d5, e0, e1, e2, e3, e4, e5, ad', cp, hta, htb, rfl, _⟩ := hmu
            obtain ⟨y1, r1, x1, t1, l1, n1, p1, rfl, rfl, rfl, rfl, rfl, rfl⟩ := hta.six
            obtain ⟨y2, r2, x2, t2, l2, n2, p2, rfl, rfl, rfl, rfl, rfl, rfl⟩ := htb.six
            clear hta htb
            obtain ⟨c0, c1, c2, c3, c4, c5, c6, c7, c8, c9, c10, c11, c12, c13, c14, c15⟩ := h6.tell
            clear hu hdrop h6
            go_wp2_with fail
            have hba := vbelow_new wr (.cells #[.int .i64 k', .int .i64 ta.kd, .bool y1, .int .i64 r1, .int .i64 x1, .string t1, .slice l1 n1 p1, .int .i64 tb.kd, .bool y2, .int .i64 r2, .int .i64 x2, .string t2, .slice l2 n2 p2, .bool oa', .bool ob', .slice ad' kk.length cp] 29)
            have hbw := bv (unhide HB) hba
            have C := unhide HU _ _ (d + 1) (MemS.mono hbw.size (MemS.below (hba.mono (unhide HB).size) (unhide HM))) (by omega)
            rw [show ((d + 1 : Nat) : Int) = (d : Int) + 1 by omega] at C
            refine C.mono ?_
            rintro e w2 ⟨rfl, hb2⟩
            have HB2 := hide (bv hbw hb2)
            clear hb2 hba hbw HB HM C c0 c1 c2 c3 c4 c5 c6 c7 c8 c9 c10 c11 c12 c13 c14 c15
            by_cases hr : wrongS (.mk k' ta tb oa' ob' kk) (d + 1) = 0
            · have hz : (wrongS (.mk k' ta tb oa' ob' kk) (d + 1) != 0) = false := by simp [hr]
              have H2 := hide ((unhide H).trans (wrongSL_ok (us := ks.drop (m + 1)) hr))
              generalize wrongS (.mk k' ta tb oa' ob' kk) (d + 1) = R at *
              clear hr H
              go_wp2
              go_round
              case rel => exact ⟨m + 1, by omega, by go_num, H2, HB2⟩
              case measure => simp [intOf]; omega
            · have hz : (wrongS (.mk k' ta tb oa' ob' kk) (d + 1) != 0) = true := by simp [hr]
              have H2 := hide ((unhide H).trans (wrongSL_no (us := ks.drop (m + 1)) hr))
              generalize wrongS (.mk k' ta tb oa' ob' kk) (d + 1) = R at *
              clear hr H
              go_wp2
              go_ret
              rw [unhide H2]
              exact ⟨rfl, unhide HB2⟩
        · obtain rfl : m = ks.length := by omega
          have H2 : Hid (wrongSL ks (d + 1) = 0) := by
            have h := unhide H
            rw [List.drop_length, wrongSL_nil] at h
            exact hide h
          go_wp2
          go_ret
          rw [unhide H2]
          exact ⟨rfl, unhide HB⟩
  clear HK IH'
  by_cases k1 : k = 1
  · subst k1
    rw [ws_any h1]
    clear VA VB
    go_enter Tryd.func14, Tryd.ntmps14
    go_wp2
    go_ret
    exact ⟨rfl, unhide NB⟩
  have g1 : ¬ k < 1 := by omega
  have g9 : ¬ (9 : Int) < k := by omega
  have g8 : ¬ (8 : Int) ≤ k := by omega
  have k1' : (k == 1) = false := by simpa using k1
  have W2 : Hid (k = 2 → wrongS (.mk k a b oa ob ks) d = valW a) := hide (fun e => by subst e; exact ws_is h1)
  have W7 : Hid (k = 7 → wrongS (.mk k a b oa ob ks) d = twoW a b) := hide (fun e => by subst e; exact ws_in h1)
  have W1 : Hid (¬ k = 2 → ¬ k = 7 → wrongS (.mk k a b oa ob ks) d = oneW a) := hide (fun e f => ws_one h1 (by omega))
  generalize wrongS (.mk k a b oa ob ks) d = R at *
  go_enter Tryd.func14, Tryd.ntmps14
  go_wp2_with fail
  refine (unhide VA _ (unhide NB)).mono ?_
  rintro e w1 ⟨rfl, hb1⟩
  have HB1 := hide (bv (unhide NB) hb1)
  have XB1 := hide ((unhide XB).keep hb1 (by simp))
  clear hb1 VA XB
  by_cases hva : valW a = 0
  · have hz : (valW a != 0) = false := by simp [hva]
    by_cases k7 : k = 7
    · subst k7
      obtain ⟨q0, q1, q2, q3, q4, q5, q6, q7, q8, q9, q10, q11, q12, q13, q14, q15⟩ := (unhide XB1).tell
      have HW : Hid (¬ valW b = 0 → R = valW b) := hide (fun g => (unhide W7 rfl).trans (twoW_no2 hva g))
      have HO : Hid (valW b = 0 → R = if a.kd = 3 ∨ a.kd = 4 then (if b.kd = a.kd then 0 else 9) else 9) := hide (fun g => (unhide W7 rfl).trans (twoW_ok hva g))
      clear W2 W7 W1
      generalize valW a = Va at *
      clear hva
      go_wp2_with fail
      refine (unhide VB _ (unhide HB1)).mono ?_
      rintro e w2 ⟨rfl, hb2⟩
      have HB2 := hide (bv (unhide HB1) hb2)
      obtain ⟨z0, z1, z2, z3, z4, z5, z6, z7, z8, z9, z10, z11, z12, z13, z14, z15⟩ := ((unhide XB1).keep hb2 (unhide XB1).low).tell
      clear hb2 q0 q1 q2 q3 q4 q5 q6 q7 q8 q9 q10 q11 q12 q13 q14 q15 VB
      by_cases hvb : valW b = 0
      · have hzb : (valW b != 0) = false := by simp [hvb]
        have HO' := hide (unhide HO hvb)
        clear HW HO
        generalize valW b = Vb at *
        clear hvb
        by_cases ha3 : a.kd = 3
        · by_cases hbk : b.kd = a.kd
          · have HE : Hid (R = 0) := hide (by rw [unhide HO', if_pos (.inl ha3), if_pos hbk])
            rw [hbk, ha3] at z7
            rw [ha3] at z1
            go_wp2
            go_ret
            rw [unhide HE]
            exact ⟨rfl, unhide HB2⟩
          · have HE : Hid (R = 9) := hide (by rw [unhide HO', if_pos (.inl ha3), if_neg hbk])
            rw [ha3] at z1 hbk
            have hbk' : ((3 : Int) != b.kd) = true := by rw [bne_iff_ne]; omega
            go_wp2
            go_ret
            rw [unhide HE]
            exact ⟨rfl, unhide HB2⟩
        by_cases ha4 : a.kd = 4
        · by_cases hbk : b.kd = a.kd
          · have HE : Hid (R = 0) := hide (by rw [unhide HO', if_pos (.inr ha4), if_pos hbk])
            rw [hbk, ha4] at z7
            rw [ha4] at z1
            go_wp2
            go_ret
            rw [unhide HE]
            exact ⟨rfl, unhide HB2⟩
          · have HE : Hid (R = 9) := hide (by rw [unhide HO', if_pos (.inr ha4), if_neg hbk])
            rw [ha4] at z1 hbk
            have hbk' : ((4 : Int) != b.kd) = true := by rw [bne_iff_ne]; omega
            go_wp2
            go_ret
            rw [unhide HE]
            exact ⟨rfl, unhide HB2⟩
        · have HE : Hid (R = 9) := hide (by rw [unhide HO', if_neg (by omega)])
          have ha3' : (a.kd == 3) = false := by simpa using ha3
          have ha4' : (a.kd == 4) = false := by simpa using ha4
          go_wp2
          go_ret
          rw [unhide HE]
          exact ⟨rfl, unhide HB2⟩
      · have hzb : (valW b != 0) = true := by simp [hvb]
        have HE := hide (unhide HW hvb)
        clear HW HO z0 z1 z2 z3 z4 z5 z6 z7 z8 z9 z10 z11 z12 z13 z14 z15
        generalize valW b = Vb at *
        clear hvb
        go_wp2
        go_ret
        rw [unhide HE]
        exact ⟨rfl, unhide HB2⟩
    · have k7' : (k == 7) = false := by simpa using k7
      obtain ⟨q0, q1, q2, q3, q4, q5, q6, q7, q8, q9, q10, q11, q12, q13, q14, q15⟩ := (unhide XB1).tell
      clear VB
      by_cases k2 : k = 2
      · subst k2
        have HE : Hid (R = 0) := hide ((unhide W2 rfl).trans hva)
        clear W2 W7 W1
        generalize valW a = Va at *
        clear hva
        by_cases ha3 : a.kd = 3
        · rw [ha3] at q1
          go_wp2
          go_ret
          rw [unhide HE]
          exact ⟨rfl, unhide HB1⟩
        have ha3' : (a.kd == 3) = false := by simpa using ha3
        by_cases ha4 : a.kd = 4
        · rw [ha4] at q1
          go_wp2
          go_ret
          rw [unhide HE]
          exact ⟨rfl, unhide HB1⟩
        have ha4' : (a.kd == 4) = false := by simpa using ha4
        go_wp2
        go_ret
        rw [unhide HE]
        exact ⟨rfl, unhide HB1⟩
      · have k2' : (k != 2) = true := by simpa using k2
        have HO : Hid (R = if a.kd = 3 ∨ a.kd = 4 then 0 else 9) := hide ((unhide W1 k2 k7).trans (oneW_ok hva))
        clear W2 W7 W1
        generalize valW a = Va at *
        clear hva
        by_cases ha3 : a.kd = 3
        · have HE : Hid (R = 0) := hide (by rw [unhide HO, if_pos (.inl ha3)])
          rw [ha3] at q1
          go_wp2
          go_ret
          rw [unhide HE]
          exact ⟨rfl, unhide HB1⟩
        have ha3' : (a.kd == 3) = false := by simpa using ha3
        by_cases ha4 : a.kd = 4
        · have HE : Hid (R = 0) := hide (by rw [unhide HO, if_pos (.inr ha4)])
          rw [ha4] at q1
          go_wp2
          go_ret
          rw [unhide HE]
          exact ⟨rfl, unhide HB1⟩
        have ha4' : (a.kd == 4) = false := by simpa using ha4
        have HE : Hid (R = 9) := hide (by rw [unhide HO, if_neg (by omega)])
        go_wp2
        go_ret
        rw [unhide HE]
        exact ⟨rfl, unhide HB1⟩
  · have hz : (valW a != 0) = true := by simp [hva]
    have HE : Hid (R = valW a) := hide (by
      by_cases k2 : k = 2
      · exact unhide W2 k2
      by_cases k7 : k = 7
      · rw [unhide W7 k7, twoW_no hva]
      · rw [unhide W1 k2 k7, oneW_no hva])
    clear W2 W7 W1 XB1
    generalize valW a = Va at *
    clear hva
    go_wp2
    go_ret
    rw [unhide HE]
    exact ⟨rfl, unhide HB1⟩

mutual
theorem rwrong_all : ∀ T : TS, RWrongSC T
  | .mk k a b oa ob ks => rwrong_of k a b oa ob ks (fun u h => rwrong_alls ks u h)
theorem rwrong_alls : ∀ (ks : List TS) (u : TS), u ∈ ks → RWrongSC u
  | [], u, h => by cases h
  | v :: vs, u, h => by
    by_cases e : u = v
    · rw [e]; exact rwrong_all v
    · exact rwrong_alls vs u ((List.mem_cons.1 h).resolve_left e)
end

set_option maxHeartbeats 1000000 in
theorem rWrong8_any (T : TS) (v : Array Value) (w : World) (hM : MemS w.heap.size w T v) :
    Calls Tryd.prog 5 #[.agg v] w fun e w' => e = .returned (.int .i64 (wrongS T 1)) ∧ Below w.heap.size w w' := by
  have C := hide (fun wx (hb : Below w.heap.size w wx) => rwrong_all T wx v 1 (MemS.mono hb.size (MemS.below hb hM)) (by omega))
  obtain ⟨k, a, b, oa, ob, ks⟩ := T
  rw [MemS] at hM
  obtain ⟨_, a0, a1, a2, a3, a4, a5, b0, b1, b2, b3, b4, b5, ad, cap, _, _, rfl, _⟩ := hM
  go_enter Tryd.func5, Tryd.ntmps5
  go_wp2_with fail
  refine (unhide C _ (vbelow_new _ _)).mono ?_
  rintro e w1 ⟨rfl, hb⟩
  have HB := hide (bv (vbelow_new w _) hb)
  clear hb
  go_wp2
  go_ret
  exact ⟨rfl, unhide HB⟩
end Go.Proofs.YtbdgngfpofohpaaDoor

/- The walk over TestsTell, out of what each call tells. (Written by gen_s14.py.) -/
namespace Go.Proofs.YtbdgngfpofohpaaDoor
open Go.RowKit

theorem tell_walk (T : TS) (v : Tree) (Y : TT) (q u t : Array Value) (w : World) (hM : MemS w.heap.size w T q) (Mv : Mem w.heap.size w v u) (My : MemT w.heap.size w Y t) (hT : TabsIn w.heap.size w) :
    Calls Tryd.prog 3 #[.agg q, .agg u, .agg t] w fun e w' => e = .returned (.bool true) ∧ Below w.heap.size w w' := by
  have K4 := fun wx (hb : Below w.heap.size w wx) => xr (tWrong_any T q w.heap.size wx hb.size (MemS.below hb hM) (hT.below hb))
  have K5 := fun wx (hb : Below w.heap.size w wx) => xr (rWrong8_any T q wx (hM.grow hb))
  have KW := fun (h : ¬ wrongS T 1 = 0) wx (hb : Below w.heap.size w wx) => tDoes_wrong T q u w.heap.size wx hb.size (MemS.below hb hM) Mv.arr (hT.below hb) h
  have KV := fun (h : wrongS T 1 = 0) wx (hb : Below w.heap.size w wx) => tDoes_val T v q u w.heap.size wx hb.size (MemS.below hb hM) (Mem.below hb Mv) (hT.below hb) h
  have K7 := fun wx (hb : Below w.heap.size w wx) => dwrong_any v u wx (Mem.mono hb.size (Mem.below hb Mv))
  have K10 := fun (h : wrongS T 1 = 0) (hv : (wrongF v 0 1).1 = 0) wx (hb : Below w.heap.size w wx) => xr (rdoes_all T v wx q u 1 (hM.grow hb) (Mem.mono hb.size (Mem.below hb Mv)) h hv)
  obtain ⟨ty, ys⟩ := Y
  obtain ⟨_, ya, yc, rfl⟩ := MemTP.any My
  have K11 := fun (h : wrongS T 1 = 0) wx (hb : Below w.heap.size w wx) => xr (tFits_any T q ty (.slice ya ys.length yc) w.heap.size wx hb.size (MemS.below hb hM) (hT.below hb) h)
  have K12 := fun (h : wrongS T 1 = 0) wx (hb : Below w.heap.size w wx) => xr (RFitsC_all T wx q ty (.slice ya ys.length yc) 1 (hM.grow hb) h)
  have ln := doesS_le T v
  obtain ⟨u0, u1, u2, u3, u4, u5, rfl⟩ := Mv.arr
  generalize doesS T v = n at *
  generalize fitsS T ty = F at *
  generalize wrongS T 1 = W at *
  generalize (wrongF v 0 1).1 = F2 at *
  obtain ⟨k, a, b, oa, ob, ks⟩ := T
  rw [MemS] at hM
  obtain ⟨_, a0, a1, a2, a3, a4, a5, b0, b1, b2, b3, b4, b5, ad, cap, _, _, rfl, _⟩ := hM
  exact tell_of _ _ _ _ _ _ _ _ _ _ _ _ _ _ _ _ u0 u1 u2 u3 u4 u5 _ ty W F2 n F w (hide K4) (hide K5) (hide KW) (hide KV) (hide K7) (hide fun h g => hide (K10 h g)) (hide fun wx => xr (of_any n ln wx)) (hide fun wx => xr (same_told n wx)) (hide fun h => hide (K11 h)) (hide fun h => hide (K12 h))
end Go.Proofs.YtbdgngfpofohpaaDoor

/- A value that came in is a tree in memory. -/
namespace Go.Proofs.YtbdgngfpofohpaaDoor
open Go.ChangeShapes Go.WideShapes Go.ChangeAt Go.RowKit Go.Joins

theorem cell_spot {w : World} {a : Addr} {v : Value} (h : w.cell? a = some v) : a.spot = none := by
  unfold World.cell? at h
  split at h
  · by_cases e : a.spot.isSome = true
    · rw [if_pos e] at h; cases h
    · simpa using e
  · cases h
theorem cells6 {w : World} {base : Nat} {a : Addr} {cs : List Value} (h : w.cells? base a 6 = some cs) : a.spot = none ∧ a.block < w.heap.size ∧ Six w a.block a.off cs.toArray := by
  unfold World.cells? at h
  split at h
  case isFalse => cases h
  simp only [show List.range 6 = [0, 1, 2, 3, 4, 5] from rfl, List.mapM_cons, List.mapM_nil, Option.bind_eq_bind, Option.pure_def, Option.bind_eq_some_iff] at h
  obtain ⟨c0, h0, r1, ⟨c1, h1, r2, ⟨c2, h2, r3, ⟨c3, h3, r4, ⟨c4, h4, r5, ⟨c5, h5, r6, q6, q5⟩, q4⟩, q3⟩, q2⟩, q1⟩, hcs⟩ := h
  cases q6
  cases q5
  cases q4
  cases q3
  cases q2
  cases q1
  have hs : a.spot = none := by
    have := cell_spot h0
    simpa [Addr.add] using this
  have hb : a.block < w.heap.size := by
    have := World.block_lt_of_cell? w _ h0
    simpa [Addr.add] using this
  obtain ⟨b, o, sp⟩ := a
  simp only at hs
  subst hs
  simp only [Option.some.injEq] at hcs
  subst hcs
  refine ⟨rfl, hb, c0, c1, c2, c3, c4, c5, rfl, ?_, ?_, ?_, ?_, ?_, ?_⟩
  · simpa [Addr.add] using h0
  · simpa [Addr.add] using h1
  · simpa [Addr.add] using h2
  · simpa [Addr.add] using h3
  · simpa [Addr.add] using h4
  · simpa [Addr.add] using h5

theorem choose_list {α : Type} {P : Nat → α → Prop} : ∀ (n : Nat), (∀ i, i < n → ∃ x, P i x) → ∃ l : List α, l.length = n ∧ ∀ i x, l[i]? = some x → P i x := by
  intro n
  induction n with
  | zero => intro _; exact ⟨[], rfl, fun i x h => by simp at h⟩
  | succ n ih =>
    intro h
    obtain ⟨l, hl, hp⟩ := ih (fun i hi => h i (by omega))
    obtain ⟨x, hx⟩ := h n (by omega)
    refine ⟨l ++ [x], by simp [hl], fun i y hy => ?_⟩
    rcases Nat.lt_or_ge i n with hi | hi
    · rw [List.getElem?_append_left (by omega)] at hy
      exact hp i y hy
    · rw [List.getElem?_append_right (by omega)] at hy
      have : i = n := by
        rcases Nat.eq_or_lt_of_le hi with e | e
        · exact e.symm
        · rw [List.getElem?_eq_none (by simp; omega)] at hy; cases hy
      subst this
      simp [hl] at hy
      rw [← hy]; exact hx
theorem memL_of {B : Nat} {w : World} {b : Nat} : ∀ (ks : List Tree) (off : Nat), (∀ i u, ks[i]? = some u → ∃ cs, Six w b (off + i * 6) cs ∧ Mem B w u cs) → MemL B w ks b off
  | [], off, _ => by rw [MemL]; trivial
  | u :: us, off, h => by
    rw [MemL]
    refine ⟨by simpa using h 0 u rfl, memL_of us (off + 6) fun i v hv => ?_⟩
    have := h (i + 1) v (by simpa using hv)
    rwa [show off + (i + 1) * 6 = off + 6 + i * 6 by omega] at this

section
variable {H : Type} {enc : TypeId × Value → H} {w : World} {base : Nat} {spare : Nat → Bool} {held : Bool}
set_option maxRecDepth 100000 in
theorem tree_of : ∀ (fuel : Nat) (cs : List Value) (x : DataW H × List MemPlace), DataW.trod enc Tryd.prog w base spare held fuel 26 cs = some x → ∃ T, Mem w.heap.size w T cs.toArray := by
  intro fuel
  induction fuel using Nat.strongRecOn with
  | _ fuel ih =>
    intro cs x hf
    obtain ⟨xs, n, hn, hx, hl, hlen, hf⟩ := DataW.trod_struct Tryd.underlying26 hf
    rw [cellsVal] at hl
    obtain ⟨c0, c1, c2, c3, c4, c5, hcs⟩ := array6 (cs := cs.toArray) (by simpa using hl)
    obtain rfl : cs = [c0, c1, c2, c3, c4, c5] := by simpa using congrArg Array.toList hcs
    clear hcs
    have h0 := hf 0 _ rfl
    have h1 := hf 1 _ rfl
    have h2 := hf 2 _ rfl
    have h3 := hf 3 _ rfl
    have h4 := hf 4 _ rfl
    simp [cellsInt, cellsBool, cellsDec, cellsStr, cellsList] at h0 h1 h2 h3 h4
    obtain ⟨y0, y1, y2, y3, y4, rfl⟩ := list5 hlen
    simp at h0 h1 h2 h3 h4
    obtain ⟨k, e0, _⟩ := DataW.trod_int Tryd.underlying3 h0
    obtain ⟨y, e1, _⟩ := DataW.trod_bool Tryd.underlying4 h1
    obtain ⟨z0, z1, n2, _, _, g0, g1⟩ := trod_struct2 Tryd.underlying23 h2
    simp [cellsI64, cellsInt] at g0 g1
    obtain ⟨c, e2, _⟩ := DataW.trod_int Tryd.underlying2 g0
    obtain ⟨x', e3, _⟩ := DataW.trod_int Tryd.underlying3 g1
    obtain ⟨t, e4, _, ht⟩ := DataW.trod_string Tryd.underlying9 h3
    simp at e0 e1 e2 e3 e4
    subst e0 e1 e2 e3 e4
    have ht' : t.size ≤ 9223372036854775807 := by unfold maxLen at ht; omega
    rcases DataW.trod_slice Tryd.underlying24 h4 with ⟨e5, _⟩ | ⟨a, len, cap, elems, rest, n', hn', e5, _, _, hlc, hm, hel, hat, _⟩
    · simp at e5
      subst e5
      refine ⟨.mk k y c x' t [], ?_⟩
      rw [Mem]
      exact ⟨ht', by simp, none, 0, rfl, fun h => absurd rfl h⟩
    · simp at e5
      subst e5
      have each : ∀ i, i < len → ∃ T, ∃ cs', w.cells? base (a.add (i * 6)) 6 = some cs' ∧ Mem w.heap.size w T cs'.toArray := by
        intro i hi
        have := hat i hi
        rw [cellsVal, List.getElem?_eq_getElem (by omega), Option.bind_eq_some_iff] at this
        obtain ⟨cs', hc, ht2⟩ := this
        obtain ⟨T, hT⟩ := ih n' (by omega) cs' _ ht2
        exact ⟨T, cs', hc, hT⟩
      obtain ⟨ks, hks, hp⟩ := choose_list len each
      have hm' : cap ≤ 9223372036854775807 := by unfold maxLen at hm; omega
      refine ⟨.mk k y c x' t ks, ?_⟩
      rw [Mem]
      refine ⟨ht', by omega, some a, cap, by rw [hks], fun hne => ?_⟩
      have hpos : 0 < len := by
        rcases Nat.eq_zero_or_pos len with e | e
        · rw [e] at hks; exact absurd (List.length_eq_zero_iff.1 hks) hne
        · exact e
      obtain ⟨_, cs0, hc0, _⟩ := each 0 hpos
      simp only [Nat.zero_mul] at hc0
      have h00 : a.add 0 = a := rfl
      rw [h00] at hc0
      obtain ⟨hsp, hblk, _⟩ := cells6 hc0
      obtain ⟨b, off, sp⟩ := a
      simp only at hsp hblk
      subst hsp
      refine ⟨b, off, rfl, hblk, memL_of ks off fun i u hu => ?_⟩
      obtain ⟨cs', hc, hM⟩ := hp i u hu
      have h6 := (cells6 hc).2.2
      refine ⟨cs'.toArray, ?_, hM⟩
      by_cases hi0 : i = 0
      · subst hi0
        simpa [Addr.add] using h6
      · have hi6 : ¬ i * 6 = 0 := by omega
        rw [show (⟨b, off, none⟩ : Addr).add (i * 6) = ⟨b, off + i * 6, none⟩ by simp only [Addr.add, if_neg hi6]] at h6
        exact h6
set_option maxRecDepth 100000 in
theorem tree_value {r : Reach} {b0 : Nat} {v : Value} {d : DataW H} {p : List MemPlace}
    (hv : Value.okWide Tryd.prog w r b0 26 v) (h : DataW.Trod enc Tryd.prog w base spare held 26 v d p) :
    ∃ (T : Tree) (u : Array Value), v = .agg u ∧ Mem w.heap.size w T u := by
  obtain ⟨cs, rfl, hsz⟩ := okWide_struct Tryd.underlying26 hv
  obtain ⟨fuel, hf⟩ := h
  obtain ⟨T, hT⟩ := tree_of fuel _ _ hf
  exact ⟨T, cs, rfl, by simpa [Value.cells] using hT⟩
end
end Go.Proofs.YtbdgngfpofohpaaDoor
