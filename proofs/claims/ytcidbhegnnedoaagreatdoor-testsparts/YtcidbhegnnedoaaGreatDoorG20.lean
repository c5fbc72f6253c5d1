/- Reading a test: Over of a text whose tokens are known; errors.As of nothing. -/
import Derived.Test.YtcidbhegnnedoaaGreatDoorG16
import Derived.Test.YtcidbhegnnedoaaGreatDoorG09
namespace Go.Proofs.YtcidbhegnnedoaaGreatDoor
open Go.RowKit

set_option maxHeartbeats 1000000 in
theorem as_nil (t : Value) (w : World) :
    Calls Tryz.prog 23 #[.nilIface, t] w fun r w' => r = .returned (.bool false) ∧ w' = w := by
  go_enter Tryz.func23, Tryz.ntmps23
  go_wp2
  go_ret
  exact ⟨rfl, rfl⟩

theorem TM.tks {B : Nat} {w : World} {sv : Value} {l : List Tk} (h : TM B w sv l) (hl : l ≠ []) : ∃ g cap, sv = .slice (some ⟨g, 0, none⟩) l.length cap ∧ l.length ≤ cap ∧ B ≤ g ∧ TKS w g l := by
  rcases h.2 with ⟨_, h0⟩ | ⟨g, cap, cur, hv, hg, hh, h1, h2, h3, h4⟩
  · exact absurd (List.length_eq_zero_iff.1 h0) hl
  · refine ⟨g, cap, hv, h1, hg, lt_of_block hh, fun i t ht j v hv' => ?_⟩
    have hx := wtkCs_at l i t ht j v hv'
    rw [← h4, List.getElem?_take] at hx
    split at hx
    · simp [World.cell?, hh]
      simpa using hx
    · cases hx

set_option maxHeartbeats 4000000 in
theorem over_any (s : ByteArray) (l : List Tk) (w : World) (hs : s.size ≤ 4000) (hu : leadL (gUtf s.data.toList) s.size 0 s.data.toList = s.size) (ht : toksL s.size 0 s.data.toList [] = (l, 0, 0)) (hne : l ≠ []) (hL : LT w) (hS : SG w) :
    Calls Tryz.prog 21 #[.string s] w fun r w' => ∃ g cap, r = .returned (.tuple #[.agg #[.slice (some ⟨g, 0, none⟩) l.length cap, .int .i64 (s.size : Int)], .agg #[.int .i64 0, .int .i64 0]]) ∧ l.length ≤ cap ∧ w.heap.size ≤ g ∧ TKS w' g l ∧ Below w.heap.size w w' := by
  have C := hide (fun wx (hb : Below w.heap.size w wx) => tokens_any s wx hs hu (hL.on hb) (hS.on hb))
  rw [ht] at C
  clear hL hS ht
  go_enter Tryz.func21, Tryz.ntmps21
  go_wp2_with fail
  refine (unhide C _ (bv (vbelow_new w _) (vbelow_new _ _))).mono ?_
  rintro r w1 ⟨⟨sv, rfl, hTM⟩, hb⟩
  obtain ⟨g, cap, rfl, hcap, hgB, hK⟩ := hTM.tks hne
  have XW := (BkA.new (w := w) (t := 55) (u := #[.slice none 0 0, .int .i64 0])).over (o := .cells #[.int .i64 0, .int .i64 0] 41) |>.keep hb (by simp; omega)
  have XF : BkA w1 (w.heap.size + 1) #[.int .i64 0, .int .i64 0] := by
    have := (BkA.new (w := w.alloc (.cells #[.slice none 0 0, .int .i64 0] 55)) (t := 41) (u := #[.int .i64 0, .int .i64 0])).keep hb (by simp)
    simpa using this
  have p0 : w1.cell? ⟨w.heap.size, 0, none⟩ = some (.slice none 0 0) := XW.cell 0 _ rfl
  have p1 : w1.cell? ⟨w.heap.size, 1, none⟩ = some (.int .i64 0) := XW.cell 1 _ rfl
  have pf := XW.free
  have pl := XW.low
  have q0 : w1.cell? ⟨w.heap.size + 1, 0, none⟩ = some (.int .i64 0) := XF.cell 0 _ rfl
  have q1 : w1.cell? ⟨w.heap.size + 1, 1, none⟩ = some (.int .i64 0) := XF.cell 1 _ rfl
  have qf := XF.free
  have ql := XF.low
  have HB := hide (bv (bv (vbelow_new w _) (vbelow_new _ _)) hb)
  have HK := hide hK
  have n1 : ¬ w1.heap.size = w.heap.size := by omega
  have n2 : ¬ w1.heap.size = w.heap.size + 1 := by omega
  have n3 : ¬ w.heap.size = w1.heap.size := by omega
  have n4 : ¬ w.heap.size + 1 = w1.heap.size := by omega
  obtain ⟨F, hF⟩ : ∃ F, F = (((w1.setCell ⟨w.heap.size, 0, none⟩ (.slice (some ⟨g, 0, none⟩) l.length cap)).setCell ⟨w.heap.size, 1, none⟩ (.int .i64 (s.size : Int))).setCell ⟨w.heap.size + 1, 0, none⟩ (.int .i64 0)).setCell ⟨w.heap.size + 1, 1, none⟩ (.int .i64 0) := ⟨_, rfl⟩
  have XW2 : BkA F w.heap.size #[.slice (some ⟨g, 0, none⟩) l.length cap, .int .i64 (s.size : Int)] := by
    rw [hF]
    have := (((XW.set 0 (.slice (some ⟨g, 0, none⟩) l.length cap) (by simp)).set 1 (.int .i64 (s.size : Int)) (by simp)).aside (n := w.heap.size + 1) (j := 0) (x := .int .i64 0) (by omega)).aside (n := w.heap.size + 1) (j := 1) (x := .int .i64 0) (by omega)
    simpa using this
  have XF2 : BkA F (w.heap.size + 1) #[.int .i64 0, .int .i64 0] := by
    rw [hF]
    have := (((XF.aside (n := w.heap.size) (j := 0) (x := .slice (some ⟨g, 0, none⟩) l.length cap) (by omega)).aside (n := w.heap.size) (j := 1) (x := .int .i64 (s.size : Int)) (by omega)).set 0 (.int .i64 0) (by simp)).set 1 (.int .i64 0) (by simp)
    simpa using this
  have HX := hide XW2
  have HY := hide XF2
  have HF := hide hF
  clear XW2 XF2 hF
  have lgw : w.heap.size + 2 ≤ g := by simp at hgB; omega
  clear hTM hb C XW XF hK hgB
  go_wp2
  have r0 := ((unhide HX).over (o := .cells #[.int .i64 0, .int .i64 0] 41)).cell 0 _ rfl
  have r1 := ((unhide HX).over (o := .cells #[.int .i64 0, .int .i64 0] 41)).cell 1 _ rfl
  have r2 := ((unhide HY).over (o := .cells #[.int .i64 0, .int .i64 0] 41)).cell 0 _ rfl
  have r3 := ((unhide HY).over (o := .cells #[.int .i64 0, .int .i64 0] 41)).cell 1 _ rfl
  rw [unhide HF] at r0 r1 r2 r3
  refine bodyPost_ret (v := .tuple #[.agg #[.slice (some ⟨g, 0, none⟩) l.length cap, .int .i64 (s.size : Int)], .agg #[.int .i64 0, .int .i64 0]]) (by simp [results, Tryz.results21, go_sem, r0, r1, r2, r3]) rfl ⟨g, cap, rfl, hcap, by omega, ?_, ?_⟩
  · have q := (((((unhide HK).but (But.set (p := w.heap.size) (j := 0) (v := .slice (some ⟨g, 0, none⟩) l.length cap)) (by omega)).but (But.set (p := w.heap.size) (j := 1) (v := .int .i64 (s.size : Int))) (by omega)).but (But.set (p := w.heap.size + 1) (j := 0) (v := .int .i64 0)) (by omega)).but (But.set (p := w.heap.size + 1) (j := 1) (v := .int .i64 0)) (by omega))
    exact q.keep (vbelow_new _ _) q.low
  · exact bv (((((unhide HB).setCell (p := ⟨w.heap.size, 0, none⟩) (Nat.le_refl _) _).setCell (p := ⟨w.heap.size, 1, none⟩) (Nat.le_refl _) _).setCell (p := ⟨w.heap.size + 1, 0, none⟩) (Nat.le_succ _) _).setCell (p := ⟨w.heap.size + 1, 1, none⟩) (Nat.le_succ _) _) (vbelow_new _ _)
end Go.Proofs.YtcidbhegnnedoaaGreatDoor

/- Walks: what is wrong with a value in a test, and with values that others are less or more than, as the program tells. -/
namespace Go.Proofs.YtcidbhegnnedoaaGreatDoor
open Go.RowKit

theorem wrongN_abs {c x : Int} (h : Dm.wrongN c x = 0) : Dm.wrongN (max c (-c)) x = 0 := by
  rcases Int.le_total 0 c with h0 | h0
  · rw [show max c (-c) = c by omega]; exact h
  · rw [show max c (-c) = -c by omega]
    unfold Dm.wrongN at h ⊢
    rw [Int.neg_tmod]
    split at h
    · cases h
    split at h
    · cases h
    · rw [if_neg (by omega), if_neg (by omega)]

set_option maxHeartbeats 2000000 in
theorem inRange_any (c x : Int) (w : World) (h : Dm.wrongN c x = 0) :
    Calls Tryz.prog 44 #[.agg #[.int .i64 c, .int .i64 x]] w fun e w' => e = .returned (.bool (decide (inR c x))) ∧ Below w.heap.size w w' := by
  have CM := hide (fun wx => cmp_ok (max c (-c)) x 1 9 wx (wrongN_abs h) (by decide))
  obtain ⟨p1, p2, p3, p4, _⟩ := Dm.wrong_ok h
  have hn : IntKind.i64.wrap (-c) = -c := by rw [IntKind.wrap_i64]; omega
  have hd : decide (inR c x) = (decide (Dm.sgn (Dm.V (max c (-c)) x - Dm.V 1 9) ≤ 0) && decide (-6 ≤ x)) := by
    by_cases h1 : Dm.sgn (Dm.V (max c (-c)) x - Dm.V 1 9) ≤ 0 <;> by_cases h2 : -6 ≤ x <;> simp only [inR, h1, h2, and_true, and_false, decide_true, decide_false, Bool.and_true, Bool.and_false]
  rw [hd]
  generalize Dm.sgn (Dm.V (max c (-c)) x - Dm.V 1 9) = g at *
  clear hd h p1 p2 p3 p4
  go_enter Tryz.func44, Tryz.ntmps44
  go_wp2_with fail
  refine (unhide CM _).mono ?_
  rintro e w1 ⟨rfl, hb⟩
  have B2 := (vbelow_new w (.cells #[.int .i64 (max c (-c)), .int .i64 x] 23))
  have HB := hide (bv (bv B2 (vbelow_new _ (.cells #[.int .i64 1, .int .i64 9] 23))) hb)
  have q1 : w1.cell? ⟨w.heap.size, 1, none⟩ = some (.int .i64 x) := (hb.cell (p := ⟨w.heap.size, 1, none⟩) (by simp; omega)).trans (by simp [go_sem])
  clear hb B2 CM
  by_cases h1 : g ≤ 0
  · by_cases h2 : -6 ≤ x
    · go_wp2
      go_ret
      exact ⟨by simp [h1, h2], unhide HB⟩
    · go_wp2
      go_ret
      exact ⟨by simp; omega, unhide HB⟩
  · go_wp2
    go_ret
    exact ⟨by simp; omega, unhide HB⟩

/-- what is known when Wrong of a number tells nothing -/
theorem wf_num0 {y : Bool} {c x : Int} {t : ByteArray} {ks : List Tree} (h : (wrongF (.mk 3 y c x t ks) 0 1).1 = 0) : Dm.wrongN c x = 0 := by
  rw [wf_num (by omega)] at h
  exact h

set_option maxHeartbeats 2000000 in
theorem wrongValue_any (T : Tree) (v : Array Value) (B : Nat) (w : World) (hB : B ≤ w.heap.size) (hM : Mem B w T v) (hT : TabsIn B w) :
    Calls Tryz.prog 25 #[.agg v] w fun e w' => e = .returned (.int .i64 (valW T)) ∧ Below w.heap.size w w' := by
  have LW := hide (fun wx (hb : Below w.heap.size w wx) => logicWrong_any T v B wx (Nat.le_trans hB hb.size) (Mem.below (hb.mono hB) hM) (hT.below (hb.mono hB)))
  obtain ⟨k, y, c, x, t, ks⟩ := T
  rw [Mem] at hM
  obtain ⟨_, _, a, cap, rfl, _⟩ := hM
  have HV := hide (show valW (.mk k y c x t ks) = _ from by rw [valW])
  have HN : Hid (k = 3 → (wrongF (.mk k y c x t ks) 0 1).1 = 0 → Dm.wrongN c x = 0) := hide fun e h => by subst e; exact wf_num0 h
  generalize (wrongF (.mk k y c x t ks) 0 1).1 = W at *
  generalize valW (.mk k y c x t ks) = R at *
  clear hT
  go_enter Tryz.func25, Tryz.ntmps25
  go_wp2_with fail
  refine (unhide LW _ (vbelow_new _ _)).mono ?_
  rintro e w1 ⟨rfl, hb⟩
  have HB := hide (bv (vbelow_new w _) hb)
  have BX := Box.new.keep hb (by simp)
  obtain ⟨q0, q1, q2, q3, q4, q5⟩ := BX.tell
  clear hb BX LW
  by_cases h0 : W = 0
  · subst h0
    by_cases k5 : k = 5
    · subst k5
      have HE : Hid (R = 8) := hide (by rw [unhide HV, if_pos rfl, if_pos rfl])
      go_wp2
      go_ret
      rw [unhide HE]
      exact ⟨rfl, unhide HB⟩
    by_cases k3 : k = 3
    · subst k3
      have IR := hide (fun wx => inRange_any c x wx (unhide HN rfl rfl))
      by_cases hr : inR c x
      · have HE : Hid (R = 0) := hide (by rw [unhide HV, if_pos rfl, if_neg (by decide), if_neg (fun h => h.2 hr)])
        rw [decide_eq_true hr] at IR
        go_wp2_with fail
        refine (unhide IR _).mono ?_
        rintro e w2 ⟨rfl, hb⟩
        have HB2 := hide (bv (unhide HB) hb)
        clear hb
        go_wp2
        go_ret
        rw [unhide HE]
        exact ⟨rfl, unhide HB2⟩
      · have HE : Hid (R = 3) := hide (by rw [unhide HV, if_pos rfl, if_neg (by decide), if_pos ⟨rfl, hr⟩])
        rw [decide_eq_false hr] at IR
        go_wp2_with fail
        refine (unhide IR _).mono ?_
        rintro e w2 ⟨rfl, hb⟩
        have HB2 := hide (bv (unhide HB) hb)
        clear hb
        go_wp2
        go_ret
        rw [unhide HE]
        exact ⟨rfl, unhide HB2⟩
    · have HE : Hid (R = 0) := hide (by rw [unhide HV, if_pos rfl, if_neg k5, if_neg (fun h => k3 h.1)])
      have k5' : (k == 5) = false := by simpa using k5
      have k3' : (k == 3) = false := by simpa using k3
      go_wp2
      go_ret
      rw [unhide HE]
      exact ⟨rfl, unhide HB⟩
  · have HE : Hid (R = W) := hide (by rw [unhide HV, if_neg h0])
    have h0' : (W != 0) = true := by simp [h0]
    clear q0 q1 q2 q3 q4 q5
    go_wp2
    go_ret
    rw [unhide HE]
    exact ⟨rfl, unhide HB⟩
end Go.Proofs.YtcidbhegnnedoaaGreatDoor

/- Walks: what is wrong with values that others are less or more than, as the program tells. -/
namespace Go.Proofs.YtcidbhegnnedoaaGreatDoor
open Go.RowKit

def firstW : List Tree → Int
  | [] => 0
  | u :: us => if valW u = 0 then firstW us else valW u
def kindsW (k : Int) : List Tree → Int
  | [] => 0
  | u :: us => if u.kd = k then kindsW k us else 9
theorem firstW_ok {u : Tree} {us : List Tree} (h : valW u = 0) : firstW (u :: us) = firstW us := by rw [firstW, if_pos h]
theorem firstW_no {u : Tree} {us : List Tree} (h : ¬ valW u = 0) : firstW (u :: us) = valW u := by rw [firstW, if_neg h]
theorem kindsW_ok {k : Int} {u : Tree} {us : List Tree} (h : u.kd = k) : kindsW k (u :: us) = kindsW k us := by rw [kindsW, if_pos h]
theorem kindsW_no {k : Int} {u : Tree} {us : List Tree} (h : ¬ u.kd = k) : kindsW k (u :: us) = 9 := by rw [kindsW, if_neg h]
/-- what is wrong with such values, the first of which is of kind k -/
def boundsW (k : Int) (l : List Tree) : Int := if firstW l = 0 then (if k = 3 ∨ k = 4 then kindsW k l else 9) else firstW l
theorem oneW_is (a : Tree) : boundsW a.kd [a] = oneW a := by
  unfold boundsW oneW
  simp only [firstW, kindsW, if_true]
  split <;> simp_all
theorem twoW_is (a b : Tree) : boundsW a.kd [a, b] = twoW a b := by
  unfold boundsW twoW
  simp only [firstW, kindsW, if_true]
  split <;> (try split) <;> simp_all

set_option maxHeartbeats 4000000 in
theorem bounds_any (k0 : Int) (l : List Tree) (w : World) (B p : Nat) (c0 : w.cell? ⟨p, 0, none⟩ = some (.int .i64 k0)) (hB : B ≤ w.heap.size) (hp : p < B) (hm : MemL B w l p 0) (hne : 0 < l.length) (hl : l.length ≤ 2) (hT : TabsIn B w) :
    Calls Tryz.prog 26 #[.slice (some ⟨p, 0, none⟩) l.length l.length] w fun e w' => e = .returned (.int .i64 (boundsW k0 l)) ∧ Below w.heap.size w w' := by
  have VA := hide (fun (T : Tree) (v : Array Value) (wx : World) (hb : Below w.heap.size w wx) (hM : Mem B wx T v) => wrongValue_any T v B wx (Nat.le_trans hB hb.size) hM (hT.below (hb.mono hB)))
  have hm' := hide hm
  have C0 := hide c0
  clear hm hT c0
  go_enter Tryz.func26, Tryz.ntmps26
  go_wp2
  go_loopw [11] (fun i wr => ∃ m : Nat, m ≤ l.length ∧ i = .int .i64 (m : Int) ∧ Hid (firstW l = firstW (l.drop m)) ∧ Hid (Below w.heap.size w wr)) (fun i _ => l.length - (intOf i).toNat)
  case atStart => exact ⟨0, Nat.zero_le _, rfl, hide rfl, hide (Below.refl _ _)⟩
  case round =>
    obtain ⟨m, hml, rfl, H, HB⟩ := hrel
    by_cases hlt2 : m < l.length
    · have hi1 : (m : Int) < (l.length : Int) := by omega
      obtain ⟨u, hu⟩ : ∃ u, l[m]? = some u := ⟨_, List.getElem?_eq_getElem hlt2⟩
      have hdrop := tdrop_at hlt2 hu
      obtain ⟨cs, h6, hmu⟩ := MemL.at (MemL.below ((unhide HB).mono hB) hp (unhide hm')) m u hu
      have HM := hide hmu
      rw [hdrop] at H
      cases u with
      | mk k y c x t kk =>
        rw [Mem] at hmu
        obtain ⟨ht, hk, a', cap', rfl, _⟩ := hmu
        obtain ⟨u0, u1, u2, u3, u4, u5, hu6, c0, c1, c2, c3, c4, c5⟩ := h6
        simp only [Array.mk.injEq, List.cons.injEq, and_true] at hu6
        obtain ⟨rfl, rfl, rfl, rfl, rfl, rfl⟩ := hu6
        rw [Nat.zero_add] at c0 c1 c2 c3 c4 c5
        clear hu hdrop ht hk
        go_wp2_with fail
        have hba := vbelow_new wr (.cells #[.int .i64 k, .bool y, .int .i64 c, .int .i64 x, .string t, .slice a' kk.length cap'] 26)
        have hbw := bv (unhide HB) hba
        refine (unhide VA _ _ _ hbw (Mem.below (hba.mono (Nat.le_trans hB (unhide HB).size)) (unhide HM))).mono ?_
        rintro e w2 ⟨rfl, hb2⟩
        have HB2 := hide (bv hbw hb2)
        clear hb2 hba hbw HB HM
        by_cases hr : valW (.mk k y c x t kk) = 0
        · have hz : (valW (.mk k y c x t kk) != 0) = false := by simp [hr]
          have H2 := hide ((unhide H).trans (firstW_ok (us := l.drop (m + 1)) hr))
          generalize valW (.mk k y c x t kk) = R at *
          clear hr H
          go_wp2
          go_round
          case rel => exact ⟨m + 1, by omega, by go_num, H2, HB2⟩
          case measure => simp [intOf]; omega
        · have hz : (valW (.mk k y c x t kk) != 0) = true := by simp [hr]
          have H2 := hide ((unhide H).trans (firstW_no (us := l.drop (m + 1)) hr))
          have H3 : Hid (boundsW k0 l = valW (.mk k y c x t kk)) := hide (by unfold boundsW; rw [unhide H2, if_neg hr])
          generalize valW (.mk k y c x t kk) = R at *
          clear hr H H2
          go_wp2
          go_ret
          rw [unhide H3]
          exact ⟨rfl, unhide HB2⟩
    · obtain rfl : m = l.length := by omega
      have H2 : Hid (firstW l = 0) := by
        have h := unhide H
        rw [List.drop_length, firstW] at h
        exact hide h
      have c0 := ((unhide HB).cell (p := ⟨p, 0, none⟩) (Nat.lt_of_lt_of_le hp hB)).trans (unhide C0)
      by_cases hk : k0 = 3 ∨ k0 = 4
      · have H3 : Hid (boundsW k0 l = kindsW k0 l) := hide (by unfold boundsW; rw [unhide H2, if_pos rfl, if_pos hk])
        have hk3 : (k0 != 3 && k0 != 4) = false := by rcases hk with rfl | rfl <;> decide
        have HK := hide hk
        clear H2 H
        rcases hk with rfl | rfl
        · go_wp2
          go_loopw [33] (fun i wq => ∃ m : Nat, m ≤ l.length ∧ i = .int .i64 (m : Int) ∧ Hid (kindsW 3 l = kindsW 3 (l.drop m)) ∧ Hid (Below w.heap.size w wq)) (fun i _ => l.length - (intOf i).toNat)
          case atStart => exact ⟨0, Nat.zero_le _, rfl, hide rfl, HB⟩
          case round =>
            obtain ⟨m, hml, rfl, H, HB⟩ := hrel
            clear c0
            by_cases hlt2 : m < l.length
            · have hi1 : (m : Int) < (l.length : Int) := by omega
              obtain ⟨u, hu⟩ : ∃ u, l[m]? = some u := ⟨_, List.getElem?_eq_getElem hlt2⟩
              have hdrop := tdrop_at hlt2 hu
              obtain ⟨cs, h6, hmu⟩ := MemL.at (MemL.below ((unhide HB).mono hB) hp (unhide hm')) m u hu
              rw [hdrop] at H
              cases u with
              | mk k y c x t kk =>
                rw [Mem] at hmu
                obtain ⟨ht, hk, a', cap', rfl, _⟩ := hmu
                obtain ⟨u0, u1, u2, u3, u4, u5, hu6, c0, c1, c2, c3, c4, c5⟩ := h6
                simp only [Array.mk.injEq, List.cons.injEq, and_true] at hu6
                obtain ⟨rfl, rfl, rfl, rfl, rfl, rfl⟩ := hu6
                rw [Nat.zero_add] at c0 c1 c2 c3 c4 c5
                clear hu hdrop ht hk
                have HB2 := hide (bv (unhide HB) (vbelow_new _ (.cells #[.int .i64 k, .bool y, .int .i64 c, .int .i64 x, .string t, .slice a' kk.length cap'] 26)))
                clear HB
                by_cases hr : k = 3
                · have H2 := hide ((unhide H).trans (kindsW_ok (us := l.drop (m + 1)) (show (Tree.mk k y c x t kk).kd = 3 from hr)))
                  subst hr
                  go_wp2
                  go_round
                  case rel => exact ⟨m + 1, by omega, by go_num, H2, HB2⟩
                  case measure => simp [intOf]; omega
                · have H2 := hide ((unhide H3).trans ((unhide H).trans (kindsW_no (us := l.drop (m + 1)) (show ¬ (Tree.mk k y c x t kk).kd = 3 from hr))))
                  have hz := bne_iff_ne.2 hr
                  go_wp2
                  go_ret
                  rw [unhide H2]
                  exact ⟨rfl, unhide HB2⟩
            · obtain rfl : m = l.length := by omega
              have H2 := unhide H
              rw [List.drop_length, kindsW] at H2
              have H4 := hide ((unhide H3).trans H2)
              clear H2
              go_wp2
              go_ret
              rw [unhide H4]
              exact ⟨rfl, unhide HB⟩
        · go_wp2
          go_loopw [33] (fun i wq => ∃ m : Nat, m ≤ l.length ∧ i = .int .i64 (m : Int) ∧ Hid (kindsW 4 l = kindsW 4 (l.drop m)) ∧ Hid (Below w.heap.size w wq)) (fun i _ => l.length - (intOf i).toNat)
          case atStart => exact ⟨0, Nat.zero_le _, rfl, hide rfl, HB⟩
          case round =>
            obtain ⟨m, hml, rfl, H, HB⟩ := hrel
            clear c0
            by_cases hlt2 : m < l.length
            · have hi1 : (m : Int) < (l.length : Int) := by omega
              obtain ⟨u, hu⟩ : ∃ u, l[m]? = some u := ⟨_, List.getElem?_eq_getElem hlt2⟩
              have hdrop := tdrop_at hlt2 hu
              obtain ⟨cs, h6, hmu⟩ := MemL.at (MemL.below ((unhide HB).mono hB) hp (unhide hm')) m u hu
              rw [hdrop] at H
              cases u with
              | mk k y c x t kk =>
                rw [Mem] at hmu
                obtain ⟨ht, hk, a', cap', rfl, _⟩ := hmu
                obtain ⟨u0, u1, u2, u3, u4, u5, hu6, c0, c1, c2, c3, c4, c5⟩ := h6
                simp only [Array.mk.injEq, List.cons.injEq, and_true] at hu6
                obtain ⟨rfl, rfl, rfl, rfl, rfl, rfl⟩ := hu6
                rw [Nat.zero_add] at c0 c1 c2 c3 c4 c5
                clear hu hdrop ht hk
                have HB2 := hide (bv (unhide HB) (vbelow_new _ (.cells #[.int .i64 k, .bool y, .int .i64 c, .int .i64 x, .string t, .slice a' kk.length cap'] 26)))
                clear HB
                by_cases hr : k = 4
                · have H2 := hide ((unhide H).trans (kindsW_ok (us := l.drop (m + 1)) (show (Tree.mk k y c x t kk).kd = 4 from hr)))
                  subst hr
                  go_wp2
                  go_round
                  case rel => exact ⟨m + 1, by omega, by go_num, H2, HB2⟩
                  case measure => simp [intOf]; omega
                · have H2 := hide ((unhide H3).trans ((unhide H).trans (kindsW_no (us := l.drop (m + 1)) (show ¬ (Tree.mk k y c x t kk).kd = 4 from hr))))
                  have hz := bne_iff_ne.2 hr
                  go_wp2
                  go_ret
                  rw [unhide H2]
                  exact ⟨rfl, unhide HB2⟩
            · obtain rfl : m = l.length := by omega
              have H2 := unhide H
              rw [List.drop_length, kindsW] at H2
              have H4 := hide ((unhide H3).trans H2)
              clear H2
              go_wp2
              go_ret
              rw [unhide H4]
              exact ⟨rfl, unhide HB⟩
      · have H3 : Hid (boundsW k0 l = 9) := hide (by unfold boundsW; rw [unhide H2, if_pos rfl, if_neg hk])
        have n3 : (k0 != 3) = true := by simp; omega
        have n4 : (k0 != 4) = true := by simp; omega
        clear H2 H hk
        go_wp2
        go_ret
        rw [unhide H3]
        exact ⟨rfl, unhide HB⟩
end Go.Proofs.YtcidbhegnnedoaaGreatDoor
