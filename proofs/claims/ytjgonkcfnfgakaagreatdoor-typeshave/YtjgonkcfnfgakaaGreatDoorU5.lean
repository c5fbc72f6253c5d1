/- Walks: what two shapes are joined; a type's shape; a shape written as a type. -/
import Derived.Test.YtjgonkcfnfgakaaGreatDoorU4
namespace Go.Proofs.YtjgonkcfnfgakaaGreatDoor
open Go.RowKit

set_option maxHeartbeats 2000000 in
theorem join_any (a b : Sp) (w : World) (ha : a.n ≤ 100000) (hb : b.n ≤ 100000) :
    Calls Tryz.prog 15 #[sh a, sh b] w fun e w' => e = .returned (sh (a.join b)) ∧ Below w.heap.size w w' := by
  have F1 := hide (fun wx => fits_any a b wx ha hb)
  have F2 := hide (fun wx => fits_any b a wx hb ha)
  have P := hide (fun wx => peeled_any a b wx ha hb)
  obtain ⟨a', hA⟩ : ∃ a' : Sp, a' = ⟨a.n - min a.n b.n, a.k⟩ := ⟨_, rfl⟩
  obtain ⟨b', hB⟩ : ∃ b' : Sp, b' = ⟨b.n - min a.n b.n, b.k⟩ := ⟨_, rfl⟩
  rw [← hA, ← hB] at P
  clear hA hB
  unfold fit at F1 F2
  go_enter Tryz.func15, Tryz.ntmps15
  go_wp2_with fail
  refine (unhide F1 _).mono ?_
  rintro e w1 ⟨rfl, hb1⟩
  have B0 : Below w.heap.size w (((w.alloc (.cells #[.int .i64 (a.n : Int), .int .i64 a.k] 49)).alloc (.cells #[.int .i64 (b.n : Int), .int .i64 b.k] 49)).alloc (.cells #[.int .i64 0, .int .i64 0] 49)) := (((Below.refl _ _).alloc (Nat.le_refl _) _).alloc (by simp) _).alloc (by simp; omega) _
  have X0 := (((Bx2.new w 49 (.int .i64 a.n) (.int .i64 a.k)).keep ((Below.refl _ _).alloc (Nat.le_refl _) (.cells #[.int .i64 b.n, .int .i64 b.k] 49)) (by simp)).keep ((Below.refl _ _).alloc (Nat.le_refl _) (.cells #[.int .i64 0, .int .i64 0] 49)) (by simp; omega)).keep hb1 (by simp; omega)
  have X1 := ((Bx2.new (w.alloc (.cells #[.int .i64 a.n, .int .i64 a.k] 49)) 49 (.int .i64 b.n) (.int .i64 b.k)).keep ((Below.refl _ _).alloc (Nat.le_refl _) (.cells #[.int .i64 0, .int .i64 0] 49)) (by simp)).keep hb1 (by simp)
  have X2 := (Bx2.new ((w.alloc (.cells #[.int .i64 a.n, .int .i64 a.k] 49)).alloc (.cells #[.int .i64 b.n, .int .i64 b.k] 49)) 49 (.int .i64 0) (.int .i64 0)).keep hb1 (by simp)
  simp only [World.size_alloc] at X1 X2
  have B1 := hide (below_via B0 hb1)
  clear B0 hb1
  by_cases c1 : a.Fits b
  · rw [decide_eq_true c1]
    have J : Hid (a.join b = b) := hide (by unfold Sp.join; rw [if_pos c1])
    have d0 := X1.at0
    have d1 := X1.at1
    have g0 := X2.at0
    have g1 := X2.at1
    have h0 := X2.th0
    have h1 := X2.th1
    have l2 := X2.low
    have R := X2.put (.int .i64 b.n) (.int .i64 b.k)
    have r0 := hide R.at0
    have r1 := hide R.at1
    clear X0 X1 X2 R F1 F2 P c1
    go_wp2
    refine bodyPost_ret (v := sh (a.join b)) ?_ rfl ⟨rfl, ?_⟩
    · rw [unhide J]
      simp [results, Tryz.results15, go_sem, unhide r0, unhide r1]
    · exact ((unhide B1).setCell (by simp; omega) _).setCell (by simp; omega) _
  · rw [decide_eq_false c1]
    have Y0 := hide X0
    have Y1 := hide X1
    have Y2 := hide X2
    have d0 := X1.at0
    have d1 := X1.at1
    have a0 := X0.at0
    have a1 := X0.at1
    clear X0 X1 X2
    go_wp2_with fail
    refine (unhide F2 _).mono ?_
    rintro e w2 ⟨rfl, hb2⟩
    have X0 := (unhide Y0).keep hb2 (unhide Y0).low
    have X1 := (unhide Y1).keep hb2 (unhide Y1).low
    have X2 := (unhide Y2).keep hb2 (unhide Y2).low
    have B2 := hide (below_via (unhide B1) hb2)
    clear hb2 B1 Y0 Y1 Y2 d0 d1 a0 a1
    by_cases c2 : b.Fits a
    · rw [decide_eq_true c2]
      have J : Hid (a.join b = a) := hide (by unfold Sp.join; rw [if_neg c1, if_pos c2])
      have d0 := X0.at0
      have d1 := X0.at1
      have g0 := X2.at0
      have g1 := X2.at1
      have h0 := X2.th0
      have h1 := X2.th1
      have l2 := X2.low
      have R := X2.put (.int .i64 a.n) (.int .i64 a.k)
      have r0 := hide R.at0
      have r1 := hide R.at1
      clear X0 X1 X2 R F1 F2 P c1 c2
      go_wp2
      refine bodyPost_ret (v := sh (a.join b)) ?_ rfl ⟨rfl, ?_⟩
      · rw [unhide J]
        simp [results, Tryz.results15, go_sem, unhide r0, unhide r1]
      · exact ((unhide B2).setCell (by simp; omega) _).setCell (by simp; omega) _
    · rw [decide_eq_false c2]
      have J : Hid (a.join b = ⟨min a.n b.n, 6⟩) := hide (by unfold Sp.join; rw [if_neg c1, if_neg c2])
      have Y2 := hide X2
      have d0 := X1.at0
      have d1 := X1.at1
      have a0 := X0.at0
      have a1 := X0.at1
      clear X0 X1 X2 F1 F2 c1 c2
      go_wp2_with fail
      refine (unhide P _).mono ?_
      rintro e w3 ⟨rfl, hb3⟩
      have X2 := ((unhide Y2).keep hb3 (unhide Y2).low).keep (((Below.refl _ _).alloc (Nat.le_refl _) (.cells #[.int .i64 (a'.n : Int), .int .i64 a'.k] 49)).alloc (by simp) (.cells #[.int .i64 (b'.n : Int), .int .i64 b'.k] 49)) ((unhide Y2).keep hb3 (unhide Y2).low).low
      have B3 := hide (below_via (unhide B2) (below_via hb3 (((Below.refl _ _).alloc (Nat.le_refl _) (.cells #[.int .i64 (a'.n : Int), .int .i64 a'.k] 49)).alloc (by simp) (.cells #[.int .i64 (b'.n : Int), .int .i64 b'.k] 49))))
      clear hb3 B2 Y2 d0 d1 a0 a1 P
      have g0 := X2.at0
      have g1 := X2.at1
      have h0 := X2.th0
      have h1 := X2.th1
      have l2 := X2.low
      have R := X2.put (.int .i64 (min a.n b.n : Nat)) (.int .i64 6)
      have r0 := hide R.at0
      have r1 := hide R.at1
      clear X2 R
      go_wp2
      refine bodyPost_ret (v := sh (a.join b)) ?_ rfl ⟨rfl, ?_⟩
      · rw [unhide J]
        simp [results, Tryz.results15, go_sem, unhide r0, unhide r1]
      · exact ((unhide B3).setCell (by simp; omega) _).setCell (by simp; omega) _

theorem MemTP.form {P : Nat → Prop} {w : World} {T : TT} {v : Array Value} (h : MemTP P w T v) : ∃ k a n cap, v = #[.int .i64 k, .slice a n cap] := by
  cases T with
  | mk k ks =>
    obtain ⟨_, a', cap, rfl⟩ := h.any
    exact ⟨_, _, _, _, rfl⟩
theorem rt_kind (a : Sp) {P : Nat → Prop} {w : World} {v : Array Value} (h : MemTP P w (rt a) v) : ∃ k s, v = #[.int .i64 k, s] := by
  cases e : rt a with
  | mk k ks =>
    rw [e] at h
    obtain ⟨_, a', cap, rfl⟩ := h.any
    exact ⟨_, _, rfl⟩
set_option maxHeartbeats 2000000 in
theorem shapeOf_any (a : Sp) (v : Array Value) (w : World) (ha : a.n ≤ 60000) (hk : a.k ≠ 5) (hm : MemT w.heap.size w (rt a) v) :
    Calls Tryz.prog 14 #[.agg v] w fun e w' => e = .returned (sh a) ∧ Below w.heap.size w w' := by
  obtain ⟨k, s, rfl⟩ := rt_kind a hm
  have M0 : Hid (MemT w.heap.size w (rtN (a.n - 0) a.k) #[.int .i64 k, s]) := hide hm
  clear hm
  have hk5 : (a.k == 5) = false := by simpa using hk
  have X0 := hide ((Bx2.new w 24 (.int .i64 k) s).keep ((Below.refl _ _).alloc (Nat.le_refl _) (.cells #[.int .i64 0, .int .i64 0] 49)) (by simp))
  have Y0 : Hid (Bx2 ((w.alloc (.cells #[.int .i64 k, s] 24)).alloc (.cells #[.int .i64 0, .int .i64 0] 49)) (w.heap.size + 1) (.int .i64 0) (.int .i64 0)) := hide (by simpa using Bx2.new (w.alloc (.cells #[.int .i64 k, s] 24)) 49 (.int .i64 0) (.int .i64 0))
  have B0 := hide (((Below.refl w.heap.size w).alloc (Nat.le_refl _) (.cells #[.int .i64 k, s] 24)).alloc (by simp) (.cells #[.int .i64 0, .int .i64 0] 49))
  go_enter Tryz.func14, Tryz.ntmps14
  go_wp2_with fail
  go_loopw [3] (fun i wr => ∃ (m : Nat) (u0 u1 : Value), m ≤ a.n ∧ i = .int .i64 (m : Int) ∧ Hid (Bx2 wr w.heap.size u0 u1) ∧ Hid (Bx2 wr (w.heap.size + 1) (.int .i64 0) (.int .i64 0)) ∧ Hid (MemT w.heap.size w (rtN (a.n - m) a.k) #[u0, u1]) ∧ Hid (Below w.heap.size w wr)) (fun i _ => a.n - (intOf i).toNat)
  case atStart => exact ⟨0, _, _, Nat.zero_le _, rfl, X0, Y0, M0, B0⟩
  case round =>
    obtain ⟨m, u0, u1, hml, rfl, HX, HY, HM, HB⟩ := hrel
    clear X0 Y0 M0 B0
    have X := unhide HX
    have x0 := X.at0
    have x1 := X.at1
    have t0 := X.th0
    have t1 := X.th1
    have lx := X.low
    clear X
    by_cases hlt : m < a.n
    · obtain ⟨r, hr⟩ : ∃ r, a.n - m = r + 1 := ⟨a.n - m - 1, by omega⟩
      have hr2 : a.n - (m + 1) = r := by omega
      have hM := unhide HM
      rw [hr, rtN] at hM
      obtain ⟨b, off, cap, y0, y1, hv, hlb, c0, c1, hK⟩ := MemTP.kid hM
      simp only [Array.mk.injEq, List.cons.injEq, and_true] at hv
      obtain ⟨rfl, rfl⟩ := hv
      rw [← (unhide HB).cell (p := ⟨b, off, none⟩) hlb] at c0
      rw [← (unhide HB).cell (p := ⟨b, off + 1, none⟩) hlb] at c1
      obtain ⟨k', a', n', cap', hy⟩ := hK.form
      simp only [Array.mk.injEq, List.cons.injEq, and_true] at hy
      obtain ⟨rfl, rfl⟩ := hy
      have HK : Hid (MemT w.heap.size w (rtN (a.n - (m + 1)) a.k) #[.int .i64 k', .slice a' n' cap']) := hide (by rw [hr2]; exact hK)
      have R := hide ((unhide HX).put (.int .i64 k') (.slice a' n' cap'))
      have HY2 := hide (((unhide HY).other (q := w.heap.size) (by omega) 0 (.int .i64 k')).other (q := w.heap.size) (by omega) 1 (.slice a' n' cap'))
      have HB2 := hide (((unhide HB).setCell (p := ⟨w.heap.size, 0, none⟩) (Nat.le_refl _) (.int .i64 k')).setCell (p := ⟨w.heap.size, 1, none⟩) (Nat.le_refl _) (.slice a' n' cap'))
      clear hM hK HM HX HY HB hr hr2
      have hm1 : (m : Int) < 65536 := by omega
      go_wp2
      go_roundw
      case rel => exact ⟨m + 1, _, _, by omega, by go_num, R, HY2, HK, HB2⟩
      case measure => simp [intOf]; omega
    · obtain rfl : m = a.n := by omega
      have hM := unhide HM
      rw [Nat.sub_self, rtN] at hM
      obtain ⟨b, cap, hv⟩ := MemTP.leaf hM
      simp only [Array.mk.injEq, List.cons.injEq, and_true] at hv
      obtain ⟨rfl, rfl⟩ := hv
      have Y := unhide HY
      have g0 := Y.at0
      have g1 := Y.at1
      have h0 := Y.th0
      have h1 := Y.th1
      have l2 := Y.low
      have R := Y.put (.int .i64 a.n) (.int .i64 a.k)
      have r0 := hide R.at0
      have r1 := hide R.at1
      clear Y R hM HX HY HM
      go_wp2
      refine bodyPost_ret (v := sh a) ?_ rfl ⟨rfl, ?_⟩
      · simp [results, Tryz.results14, go_sem, unhide r0, unhide r1]
      · exact ((unhide HB).setCell (by simp) _).setCell (by simp) _

abbrev wW (wr : World) (p : Nat) (x y : Value) : World := ((wr.setCell ⟨p, 0, none⟩ (.int .i64 5)).setCell ⟨p, 1, none⟩ (.slice (some ⟨wr.heap.size, 0, none⟩) 1 1)).alloc (.cells #[x, y] 24)
theorem wW_size (wr : World) (p : Nat) (x y : Value) : (wW wr p x y).heap.size = wr.heap.size + 1 := by simp [wW]
theorem wW_cell (wr : World) (p : Nat) (x y : Value) (q o : Nat) (h1 : p < q) (h2 : q < wr.heap.size) : (wW wr p x y).cell? ⟨q, o, none⟩ = wr.cell? ⟨q, o, none⟩ := by
  refine World.cell?_of_block (w := wr) (w' := wW wr p x y) (a := ⟨q, o, none⟩) ?_
  rw [wW, Below.heap_alloc _ _ _ (by simpa using h2), Below.heap_setCell _ _ _ _ (by simp; omega), Below.heap_setCell _ _ _ _ (by simp; omega)]
theorem wW_new (wr : World) (p : Nat) (x y : Value) : (wW wr p x y).cell? ⟨wr.heap.size, 0, none⟩ = some x ∧ (wW wr p x y).cell? ⟨wr.heap.size, 1, none⟩ = some y := by
  have h := Bx2.new ((wr.setCell ⟨p, 0, none⟩ (.int .i64 5)).setCell ⟨p, 1, none⟩ (.slice (some ⟨wr.heap.size, 0, none⟩) 1 1)) 24 x y
  simp only [World.size_setCell] at h
  exact ⟨h.at0, h.at1⟩
theorem wW_mem {wr : World} {p : Nat} {x y : Value} {T : TT} (lp : p < wr.heap.size) (h : MemTP (fun q => p < q ∧ q < wr.heap.size) wr T #[x, y]) :
    MemTP (fun q => p < q ∧ q < (wW wr p x y).heap.size) (wW wr p x y) (.mk 5 [T]) #[.int .i64 5, .slice (some ⟨wr.heap.size, 0, none⟩) 1 1] := by
  refine MemTP.mkKid 5 1 ⟨lp, by rw [wW_size]; omega⟩ (wW_new wr p x y).1 (wW_new wr p x y).2 ?_
  exact MemTP.keep (fun b hb => ⟨⟨hb.1, by rw [wW_size]; omega⟩, fun o => wW_cell wr p x y b o hb.1 hb.2⟩) h

set_option maxHeartbeats 2000000 in
theorem written_any (a : Sp) (w : World) (ha : a.n ≤ 60000) :
    Calls Tryz.prog 16 #[sh a] w fun e w' => ∃ v, e = .returned (.agg v) ∧ MemTP (fun q => w.heap.size ≤ q ∧ q < w'.heap.size) w' (rt a) v ∧ Below w.heap.size w w' := by
  have Y0 : Hid (Bx2 (((w.alloc (.cells #[.int .i64 (a.n : Int), .int .i64 a.k] 49)).alloc (.cells #[.int .i64 0, .slice none 0 0] 24)).alloc (.cells #[.int .i64 a.k, .slice none 0 0] 24)) (w.heap.size + 1) (.int .i64 0) (.slice none 0 0)) :=
    hide (by simpa using (Bx2.new (w.alloc (.cells #[.int .i64 (a.n : Int), .int .i64 a.k] 49)) 24 (.int .i64 0) (.slice none 0 0)).keep ((Below.refl _ _).alloc (Nat.le_refl _) (.cells #[.int .i64 a.k, .slice none 0 0] 24)) (by simp))
  have X0 : Hid (Bx2 (((w.alloc (.cells #[.int .i64 (a.n : Int), .int .i64 a.k] 49)).alloc (.cells #[.int .i64 0, .slice none 0 0] 24)).alloc (.cells #[.int .i64 a.k, .slice none 0 0] 24)) (w.heap.size + 1 + 1) (.int .i64 a.k) (.slice none 0 0)) :=
    hide (by simpa using Bx2.new ((w.alloc (.cells #[.int .i64 (a.n : Int), .int .i64 a.k] 49)).alloc (.cells #[.int .i64 0, .slice none 0 0] 24)) 24 (.int .i64 a.k) (.slice none 0 0))
  have B0 : Hid (Below w.heap.size w (((w.alloc (.cells #[.int .i64 (a.n : Int), .int .i64 a.k] 49)).alloc (.cells #[.int .i64 0, .slice none 0 0] 24)).alloc (.cells #[.int .i64 a.k, .slice none 0 0] 24))) :=
    hide ((((Below.refl _ _).alloc (Nat.le_refl _) _).alloc (by simp) _).alloc (by simp; omega) _)
  go_enter Tryz.func16, Tryz.ntmps16
  go_wp2_with fail
  go_loopw [9] (fun i wr => ∃ (m : Nat) (k : Int) (b : Option Addr) (n cap : Nat), m ≤ a.n ∧ i = .int .i64 (m : Int) ∧ Hid (Bx2 wr (w.heap.size + 1) (.int .i64 0) (.slice none 0 0)) ∧ Hid (Bx2 wr (w.heap.size + 1 + 1) (.int .i64 k) (.slice b n cap)) ∧
    Hid (MemTP (fun q => w.heap.size + 1 + 1 < q ∧ q < wr.heap.size) wr (rtN m a.k) #[.int .i64 k, .slice b n cap]) ∧ Hid (Below w.heap.size w wr)) (fun i _ => a.n - (intOf i).toNat)
  case atStart => exact ⟨0, _, _, _, _, Nat.zero_le _, rfl, Y0, X0, hide (MemTP.mkLeaf _ _ _ _ _), B0⟩
  case round =>
    obtain ⟨m, k, b, n, cap, hml, rfl, HY, HX, HM, HB⟩ := hrel
    clear X0 Y0 B0
    have X := unhide HX
    have x0 := X.at0
    have x1 := X.at1
    have t0 := X.th0
    have t1 := X.th1
    have lx := X.low
    clear X
    by_cases hlt : m < a.n
    · have hi : (m : Int) < (a.n : Int) := by omega
      have HM2 : Hid (MemTP (fun q => w.heap.size + 1 + 1 < q ∧ q < (wW wr (w.heap.size + 1 + 1) (.int .i64 k) (.slice b n cap)).heap.size) (wW wr (w.heap.size + 1 + 1) (.int .i64 k) (.slice b n cap)) (rtN (m + 1) a.k) #[.int .i64 5, .slice (some ⟨wr.heap.size, 0, none⟩) 1 1]) := hide (wW_mem lx (unhide HM))
      have HX2 := hide (((unhide HX).put (.int .i64 5) (.slice (some ⟨wr.heap.size, 0, none⟩) 1 1)).keep ((Below.refl _ _).alloc (Nat.le_refl _) (.cells #[.int .i64 k, .slice b n cap] 24)) (by simpa using lx))
      have HY2 := hide ((((unhide HY).other (q := w.heap.size + 1 + 1) (by omega) 0 (.int .i64 5)).other (q := w.heap.size + 1 + 1) (by omega) 1 (.slice (some ⟨wr.heap.size, 0, none⟩) 1 1)).keep ((Below.refl _ _).alloc (Nat.le_refl _) (.cells #[.int .i64 k, .slice b n cap] 24)) (by simpa using (unhide HY).low))
      have HB2 := hide ((((unhide HB).setCell (p := ⟨w.heap.size + 1 + 1, 0, none⟩) (by simp; omega) (.int .i64 5)).setCell (p := ⟨w.heap.size + 1 + 1, 1, none⟩) (by simp; omega) (.slice (some ⟨wr.heap.size, 0, none⟩) 1 1)).alloc (by have := (unhide HB).size; simpa using this) (.cells #[.int .i64 k, .slice b n cap] 24))
      clear HM HX HY HB
      go_wp2
      go_roundw
      case rel => exact ⟨m + 1, 5, some ⟨wr.heap.size, 0, none⟩, 1, 1, by omega, by go_num, HY2, HX2, HM2, HB2⟩
      case measure => simp [intOf]; omega
    · obtain rfl : m = a.n := by omega
      have Y := unhide HY
      have g0 := Y.at0
      have g1 := Y.at1
      have h0 := Y.th0
      have h1 := Y.th1
      have l2 := Y.low
      have R := Y.put (.int .i64 k) (.slice b n cap)
      have r0 := hide R.at0
      have r1 := hide R.at1
      have HM2 : Hid (MemTP (fun q => w.heap.size ≤ q ∧ q < ((wr.setCell ⟨w.heap.size + 1, 0, none⟩ (.int .i64 k)).setCell ⟨w.heap.size + 1, 1, none⟩ (.slice b n cap)).heap.size) ((wr.setCell ⟨w.heap.size + 1, 0, none⟩ (.int .i64 k)).setCell ⟨w.heap.size + 1, 1, none⟩ (.slice b n cap)) (rt a) #[.int .i64 k, .slice b n cap]) := by
        refine hide (MemTP.keep (fun q hq => ⟨⟨by omega, by simpa using hq.2⟩, fun o => ?_⟩) (unhide HM))
        refine World.cell?_of_block (w := wr) (a := ⟨q, o, none⟩) ?_
        rw [Below.heap_setCell _ _ _ _ (by simp; omega), Below.heap_setCell _ _ _ _ (by simp; omega)]
      clear Y R HX HY HM
      go_wp2
      refine bodyPost_ret (v := .agg #[.int .i64 k, .slice b n cap]) ?_ rfl ⟨_, rfl, unhide HM2, ?_⟩
      · simp [results, Tryz.results16, go_sem, unhide r0, unhide r1]
      · exact ((unhide HB).setCell (by simp) _).setCell (by simp) _

theorem memTP_via {w0 wp w3 : World} {T : TT} {v : Array Value} (h : Below w0.heap.size w0 wp) (k : MemTP (fun q => wp.heap.size ≤ q ∧ q < w3.heap.size) w3 T v) : MemTP (fun q => w0.heap.size ≤ q ∧ q < w3.heap.size) w3 T v :=
  MemTP.keep (fun _ hq => ⟨⟨Nat.le_trans h.size hq.1, hq.2⟩, fun _ => rfl⟩) k
theorem MemTP.low {B : Nat} {w : World} {T : TT} {v : Array Value} (k : MemTP (fun q => B ≤ q ∧ q < w.heap.size) w T v) : MemT w.heap.size w T v :=
  MemTP.keep (fun _ hq => ⟨hq.2, fun _ => rfl⟩) k
/-- a new type, when an elder block is written -/
theorem MemTP.put {B p : Nat} {w : World} {T : TT} {v : Array Value} (k : MemTP (fun q => B ≤ q ∧ q < w.heap.size) w T v) (hp : p < B) (x y : Value) :
    MemTP (fun q => B ≤ q ∧ q < ((w.setCell ⟨p, 0, none⟩ x).setCell ⟨p, 1, none⟩ y).heap.size) ((w.setCell ⟨p, 0, none⟩ x).setCell ⟨p, 1, none⟩ y) T v := by
  refine MemTP.keep (fun q hq => ⟨⟨hq.1, by simpa using hq.2⟩, fun o => ?_⟩) k
  refine World.cell?_of_block (w := w) (a := ⟨q, o, none⟩) ?_
  rw [Below.heap_setCell _ _ _ _ (by simp; omega), Below.heap_setCell _ _ _ _ (by simp; omega)]
end Go.Proofs.YtjgonkcfnfgakaaGreatDoor
