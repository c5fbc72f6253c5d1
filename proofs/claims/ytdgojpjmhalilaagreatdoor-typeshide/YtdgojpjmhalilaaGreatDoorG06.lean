/- Walks: what two shapes are joined; a type's shape; a shape written as a type. -/
import Derived.Test.YtdgojpjmhalilaaGreatDoorG05
import Derived.Carry
import Derived.MapKept
import Derived.MapFrom
namespace Go.Proofs.YtdgojpjmhalilaaGreatDoor
open Go.RowKit

set_option maxHeartbeats 2000000 in
theorem join_any (a b : Sp) (w : World) (ha : a.n ≤ 100000) (hb : b.n ≤ 100000) :
    Calls Tryz.prog 50 #[sh a, sh b] w fun e w' => e = .returned (sh (a.join b)) ∧ Below w.heap.size w w' := by
  have F1 := hide (fun wx => fits_any a b wx ha hb)
  have F2 := hide (fun wx => fits_any b a wx hb ha)
  have P := hide (fun wx => peeled_any a b wx ha hb)
  obtain ⟨a', hA⟩ : ∃ a' : Sp, a' = ⟨a.n - min a.n b.n, a.k⟩ := ⟨_, rfl⟩
  obtain ⟨b', hB⟩ : ∃ b' : Sp, b' = ⟨b.n - min a.n b.n, b.k⟩ := ⟨_, rfl⟩
  rw [← hA, ← hB] at P
  clear hA hB
  unfold fit at F1 F2
  go_enter Tryz.func50, Tryz.ntmps50
  go_wp2_with fail
  refine (unhide F1 _).mono ?_
  rintro e w1 ⟨rfl, hb1⟩
  have B0 : Below w.heap.size w (((w.alloc (.cells #[.int .i64 (a.n : Int), .int .i64 a.k] 47)).alloc (.cells #[.int .i64 (b.n : Int), .int .i64 b.k] 47)).alloc (.cells #[.int .i64 0, .int .i64 0] 47)) := (((Below.refl _ _).alloc (Nat.le_refl _) _).alloc (by simp) _).alloc (by simp; omega) _
  have X0 := (((Bx2.new w 47 (.int .i64 a.n) (.int .i64 a.k)).keep ((Below.refl _ _).alloc (Nat.le_refl _) (.cells #[.int .i64 b.n, .int .i64 b.k] 47)) (by simp)).keep ((Below.refl _ _).alloc (Nat.le_refl _) (.cells #[.int .i64 0, .int .i64 0] 47)) (by simp; omega)).keep hb1 (by simp; omega)
  have X1 := ((Bx2.new (w.alloc (.cells #[.int .i64 a.n, .int .i64 a.k] 47)) 47 (.int .i64 b.n) (.int .i64 b.k)).keep ((Below.refl _ _).alloc (Nat.le_refl _) (.cells #[.int .i64 0, .int .i64 0] 47)) (by simp)).keep hb1 (by simp)
  have X2 := (Bx2.new ((w.alloc (.cells #[.int .i64 a.n, .int .i64 a.k] 47)).alloc (.cells #[.int .i64 b.n, .int .i64 b.k] 47)) 47 (.int .i64 0) (.int .i64 0)).keep hb1 (by simp)
  simp only [World.size_alloc] at X1 X2
  have B1 := hide (below_via B0 hb1)
  clear B0 hb1
  by_cases c1 : a.Fits b
  · rw [decide_eq_true c1]
    have J : Hid (a.join b = b) := hide (by unfold Sp.join; rw [if_pos c1])
    have d0 := X1.at0
    have d1 := X1.at1
    have g0 := X2.at0
    have g1 := X2.at1
    have h0 := X2.th0
    have h1 := X2.th1
    have l2 := X2.low
    have R := X2.put (.int .i64 b.n) (.int .i64 b.k)
    have r0 := hide R.at0
    have r1 := hide R.at1
    clear X0 X1 X2 R F1 F2 P c1
    go_wp2
    refine bodyPost_ret (v := sh (a.join b)) ?_ rfl ⟨rfl, ?_⟩
    · rw [unhide J]
      simp [results, Tryz.results50, go_sem, unhide r0, unhide r1]
    · exact ((unhide B1).setCell (by simp; omega) _).setCell (by simp; omega) _
  · rw [decide_eq_false c1]
    have Y0 := hide X0
    have Y1 := hide X1
    have Y2 := hide X2
    have d0 := X1.at0
    have d1 := X1.at1
    have a0 := X0.at0
    have a1 := X0.at1
    clear X0 X1 X2
    go_wp2_with fail
    refine (unhide F2 _).mono ?_
    rintro e w2 ⟨rfl, hb2⟩
    have X0 := (unhide Y0).keep hb2 (unhide Y0).low
    have X1 := (unhide Y1).keep hb2 (unhide Y1).low
    have X2 := (unhide Y2).keep hb2 (unhide Y2).low
    have B2 := hide (below_via (unhide B1) hb2)
    clear hb2 B1 Y0 Y1 Y2 d0 d1 a0 a1
    by_cases c2 : b.Fits a
    · rw [decide_eq_true c2]
      have J : Hid (a.join b = a) := hide (by unfold Sp.join; rw [if_neg c1, if_pos c2])
      have d0 := X0.at0
      have d1 := X0.at1
      have g0 := X2.at0
      have g1 := X2.at1
      have h0 := X2.th0
      have h1 := X2.th1
      have l2 := X2.low
      have R := X2.put (.int .i64 a.n) (.int .i64 a.k)
      have r0 := hide R.at0
      have r1 := hide R.at1
      clear X0 X1 X2 R F1 F2 P c1 c2
      go_wp2
      refine bodyPost_ret (v := sh (a.join b)) ?_ rfl ⟨rfl, ?_⟩
      · rw [unhide J]
        simp [results, Tryz.results50, go_sem, unhide r0, unhide r1]
      · exact ((unhide B2).setCell (by simp; omega) _).setCell (by simp; omega) _
    · rw [decide_eq_false c2]
      have J : Hid (a.join b = ⟨min a.n b.n, 6⟩) := hide (by unfold Sp.join; rw [if_neg c1, if_neg c2])
      have Y2 := hide X2
      have d0 := X1.at0
      have d1 := X1.at1
      have a0 := X0.at0
      have a1 := X0.at1
      clear X0 X1 X2 F1 F2 c1 c2
      go_wp2_with fail
      refine (unhide P _).mono ?_
      rintro e w3 ⟨rfl, hb3⟩
      have X2 := ((unhide Y2).keep hb3 (unhide Y2).low).keep (((Below.refl _ _).alloc (Nat.le_refl _) (.cells #[.int .i64 (a'.n : Int), .int .i64 a'.k] 47)).alloc (by simp) (.cells #[.int .i64 (b'.n : Int), .int .i64 b'.k] 47)) ((unhide Y2).keep hb3 (unhide Y2).low).low
      have B3 := hide (below_via (unhide B2) (below_via hb3 (((Below.refl _ _).alloc (Nat.le_refl _) (.cells #[.int .i64 (a'.n : Int), .int .i64 a'.k] 47)).alloc (by simp) (.cells #[.int .i64 (b'.n : Int), .int .i64 b'.k] 47))))
      clear hb3 B2 Y2 d0 d1 a0 a1 P
      have g0 := X2.at0
      have g1 := X2.at1
      have h0 := X2.th0
      have h1 := X2.th1
      have l2 := X2.low
      have R := X2.put (.int .i64 (min a.n b.n : Nat)) (.int .i64 6)
      have r0 := hide R.at0
      have r1 := hide R.at1
      clear X2 R
      go_wp2
      refine bodyPost_ret (v := sh (a.join b)) ?_ rfl ⟨rfl, ?_⟩
      · rw [unhide J]
        simp [results, Tryz.results50, go_sem, unhide r0, unhide r1]
      · exact ((unhide B3).setCell (by simp; omega) _).setCell (by simp; omega) _

theorem MemTP.form {P : Nat → Prop} {w : World} {T : TT} {v : Array Value} (h : MemTP P w T v) : ∃ k a n cap, v = #[.int .i64 k, .slice a n cap] := by
  cases T with
  | mk k ks =>
    obtain ⟨_, a', cap, rfl⟩ := h.any
    exact ⟨_, _, _, _, rfl⟩
theorem rt_kind (a : Sp) {P : Nat → Prop} {w : World} {v : Array Value} (h : MemTP P w (rt a) v) : ∃ k s, v = #[.int .i64 k, s] := by
  cases e : rt a with
  | mk k ks =>
    rw [e] at h
    obtain ⟨_, a', cap, rfl⟩ := h.any
    exact ⟨_, _, rfl⟩
set_option maxHeartbeats 2000000 in
theorem shapeOf_any (a : Sp) (v : Array Value) (w : World) (ha : a.n ≤ 60000) (hk : a.k ≠ 5) (hm : MemT w.heap.size w (rt a) v) :
    Calls Tryz.prog 12 #[.agg v] w fun e w' => e = .returned (sh a) ∧ Below w.heap.size w w' := by
  obtain ⟨k, s, rfl⟩ := rt_kind a hm
  have M0 : Hid (MemT w.heap.size w (rtN (a.n - 0) a.k) #[.int .i64 k, s]) := hide hm
  clear hm
  have hk5 : (a.k == 5) = false := by simpa using hk
  have X0 := hide ((Bx2.new w 33 (.int .i64 k) s).keep ((Below.refl _ _).alloc (Nat.le_refl _) (.cells #[.int .i64 0, .int .i64 0] 47)) (by simp))
  have Y0 : Hid (Bx2 ((w.alloc (.cells #[.int .i64 k, s] 33)).alloc (.cells #[.int .i64 0, .int .i64 0] 47)) (w.heap.size + 1) (.int .i64 0) (.int .i64 0)) := hide (by simpa using Bx2.new (w.alloc (.cells #[.int .i64 k, s] 33)) 47 (.int .i64 0) (.int .i64 0))
  have B0 := hide (((Below.refl w.heap.size w).alloc (Nat.le_refl _) (.cells #[.int .i64 k, s] 33)).alloc (by simp) (.cells #[.int .i64 0, .int .i64 0] 47))
  go_enter Tryz.func12, Tryz.ntmps12
  go_wp2_with fail
  go_loopw [3] (fun i wr => ∃ (m : Nat) (u0 u1 : Value), m ≤ a.n ∧ i = .int .i64 (m : Int) ∧ Hid (Bx2 wr w.heap.size u0 u1) ∧ Hid (Bx2 wr (w.heap.size + 1) (.int .i64 0) (.int .i64 0)) ∧ Hid (MemT w.heap.size w (rtN (a.n - m) a.k) #[u0, u1]) ∧ Hid (Below w.heap.size w wr)) (fun i _ => a.n - (intOf i).toNat)
  case atStart => exact ⟨0, _, _, Nat.zero_le _, rfl, X0, Y0, M0, B0⟩
  case round =>
    obtain ⟨m, u0, u1, hml, rfl, HX, HY, HM, HB⟩ := hrel
    clear X0 Y0 M0 B0
    have X := unhide HX
    have x0 := X.at0
    have x1 := X.at1
    have t0 := X.th0
    have t1 := X.th1
    have lx := X.low
    clear X
    by_cases hlt : m < a.n
    · obtain ⟨r, hr⟩ : ∃ r, a.n - m = r + 1 := ⟨a.n - m - 1, by omega⟩
      have hr2 : a.n - (m + 1) = r := by omega
      have hM := unhide HM
      rw [hr, rtN] at hM
      obtain ⟨b, off, cap, y0, y1, hv, hlb, c0, c1, hK⟩ := MemTP.kid hM
      simp only [Array.mk.injEq, List.cons.injEq, and_true] at hv
      obtain ⟨rfl, rfl⟩ := hv
      rw [← (unhide HB).cell (p := ⟨b, off, none⟩) hlb] at c0
      rw [← (unhide HB).cell (p := ⟨b, off + 1, none⟩) hlb] at c1
      obtain ⟨k', a', n', cap', hy⟩ := hK.form
      simp only [Array.mk.injEq, List.cons.injEq, and_true] at hy
      obtain ⟨rfl, rfl⟩ := hy
      have HK : Hid (MemT w.heap.size w (rtN (a.n - (m + 1)) a.k) #[.int .i64 k', .slice a' n' cap']) := hide (by rw [hr2]; exact hK)
      have R := hide ((unhide HX).put (.int .i64 k') (.slice a' n' cap'))
      have HY2 := hide (((unhide HY).other (q := w.heap.size) (by omega) 0 (.int .i64 k')).other (q := w.heap.size) (by omega) 1 (.slice a' n' cap'))
      have HB2 := hide (((unhide HB).setCell (p := ⟨w.heap.size, 0, none⟩) (Nat.le_refl _) (.int .i64 k')).setCell (p := ⟨w.heap.size, 1, none⟩) (Nat.le_refl _) (.slice a' n' cap'))
      clear hM hK HM HX HY HB hr hr2
      have hm1 : (m : Int) < 65536 := by omega
      go_wp2
      go_roundw
      case rel => exact ⟨m + 1, _, _, by omega, by go_num, R, HY2, HK, HB2⟩
      case measure => simp [intOf]; omega
    · obtain rfl : m = a.n := by omega
      have hM := unhide HM
      rw [Nat.sub_self, rtN] at hM
      obtain ⟨b, cap, hv⟩ := MemTP.leaf hM
      simp only [Array.mk.injEq, List.cons.injEq, and_true] at hv
      obtain ⟨rfl, rfl⟩ := hv
      have Y := unhide HY
      have g0 := Y.at0
      have g1 := Y.at1
      have h0 := Y.th0
      have h1 := Y.th1
      have l2 := Y.low
      have R := Y.put (.int .i64 a.n) (.int .i64 a.k)
      have r0 := hide R.at0
      have r1 := hide R.at1
      clear Y R hM HX HY HM
      go_wp2
      refine bodyPost_ret (v := sh a) ?_ rfl ⟨rfl, ?_⟩
      · simp [results, Tryz.results12, go_sem, unhide r0, unhide r1]
      · exact ((unhide HB).setCell (by simp) _).setCell (by simp) _

abbrev wW (wr : World) (p : Nat) (x y : Value) : World := ((wr.setCell ⟨p, 0, none⟩ (.int .i64 5)).setCell ⟨p, 1, none⟩ (.slice (some ⟨wr.heap.size, 0, none⟩) 1 1)).alloc (.cells #[x, y] 33)
theorem wW_size (wr : World) (p : Nat) (x y : Value) : (wW wr p x y).heap.size = wr.heap.size + 1 := by simp [wW]
theorem wW_cell (wr : World) (p : Nat) (x y : Value) (q o : Nat) (h1 : p < q) (h2 : q < wr.heap.size) : (wW wr p x y).cell? ⟨q, o, none⟩ = wr.cell? ⟨q, o, none⟩ := by
  refine World.cell?_of_block (w := wr) (w' := wW wr p x y) (a := ⟨q, o, none⟩) ?_
  rw [wW, Below.heap_alloc _ _ _ (by simpa using h2), Below.heap_setCell _ _ _ _ (by simp; omega), Below.heap_setCell _ _ _ _ (by simp; omega)]
theorem wW_new (wr : World) (p : Nat) (x y : Value) : (wW wr p x y).cell? ⟨wr.heap.size, 0, none⟩ = some x ∧ (wW wr p x y).cell? ⟨wr.heap.size, 1, none⟩ = some y := by
  have h := Bx2.new ((wr.setCell ⟨p, 0, none⟩ (.int .i64 5)).setCell ⟨p, 1, none⟩ (.slice (some ⟨wr.heap.size, 0, none⟩) 1 1)) 33 x y
  simp only [World.size_setCell] at h
  exact ⟨h.at0, h.at1⟩
theorem wW_mem {wr : World} {p : Nat} {x y : Value} {T : TT} (lp : p < wr.heap.size) (h : MemTP (fun q => p < q ∧ q < wr.heap.size) wr T #[x, y]) :
    MemTP (fun q => p < q ∧ q < (wW wr p x y).heap.size) (wW wr p x y) (.mk 5 [T]) #[.int .i64 5, .slice (some ⟨wr.heap.size, 0, none⟩) 1 1] := by
  refine MemTP.mkKid 5 1 ⟨lp, by rw [wW_size]; omega⟩ (wW_new wr p x y).1 (wW_new wr p x y).2 ?_
  exact MemTP.keep (fun b hb => ⟨⟨hb.1, by rw [wW_size]; omega⟩, fun o => wW_cell wr p x y b o hb.1 hb.2⟩) h

set_option maxHeartbeats 2000000 in
theorem written_any (a : Sp) (w : World) (ha : a.n ≤ 60000) :
    Calls Tryz.prog 11 #[sh a] w fun e w' => ∃ v, e = .returned (.agg v) ∧ MemTP (fun q => w.heap.size ≤ q ∧ q < w'.heap.size) w' (rt a) v ∧ Below w.heap.size w w' := by
  have Y0 : Hid (Bx2 (((w.alloc (.cells #[.int .i64 (a.n : Int), .int .i64 a.k] 47)).alloc (.cells #[.int .i64 0, .slice none 0 0] 33)).alloc (.cells #[.int .i64 a.k, .slice none 0 0] 33)) (w.heap.size + 1) (.int .i64 0) (.slice none 0 0)) :=
    hide (by simpa using (Bx2.new (w.alloc (.cells #[.int .i64 (a.n : Int), .int .i64 a.k] 47)) 33 (.int .i64 0) (.slice none 0 0)).keep ((Below.refl _ _).alloc (Nat.le_refl _) (.cells #[.int .i64 a.k, .slice none 0 0] 33)) (by simp))
  have X0 : Hid (Bx2 (((w.alloc (.cells #[.int .i64 (a.n : Int), .int .i64 a.k] 47)).alloc (.cells #[.int .i64 0, .slice none 0 0] 33)).alloc (.cells #[.int .i64 a.k, .slice none 0 0] 33)) (w.heap.size + 1 + 1) (.int .i64 a.k) (.slice none 0 0)) :=
    hide (by simpa using Bx2.new ((w.alloc (.cells #[.int .i64 (a.n : Int), .int .i64 a.k] 47)).alloc (.cells #[.int .i64 0, .slice none 0 0] 33)) 33 (.int .i64 a.k) (.slice none 0 0))
  have B0 : Hid (Below w.heap.size w (((w.alloc (.cells #[.int .i64 (a.n : Int), .int .i64 a.k] 47)).alloc (.cells #[.int .i64 0, .slice none 0 0] 33)).alloc (.cells #[.int .i64 a.k, .slice none 0 0] 33))) :=
    hide ((((Below.refl _ _).alloc (Nat.le_refl _) _).alloc (by simp) _).alloc (by simp; omega) _)
  go_enter Tryz.func11, Tryz.ntmps11
  go_wp2_with fail
  go_loopw [9] (fun i wr => ∃ (m : Nat) (k : Int) (b : Option Addr) (n cap : Nat), m ≤ a.n ∧ i = .int .i64 (m : Int) ∧ Hid (Bx2 wr (w.heap.size + 1) (.int .i64 0) (.slice none 0 0)) ∧ Hid (Bx2 wr (w.heap.size + 1 + 1) (.int .i64 k) (.slice b n cap)) ∧
    Hid (MemTP (fun q => w.heap.size + 1 + 1 < q ∧ q < wr.heap.size) wr (rtN m a.k) #[.int .i64 k, .slice b n cap]) ∧ Hid (Below w.heap.size w wr)) (fun i _ => a.n - (intOf i).toNat)
  case atStart => exact ⟨0, _, _, _, _, Nat.zero_le _, rfl, Y0, X0, hide (MemTP.mkLeaf _ _ _ _ _), B0⟩
  case round =>
    obtain ⟨m, k, b, n, cap, hml, rfl, HY, HX, HM, HB⟩ := hrel
    clear X0 Y0 B0
    have X := unhide HX
    have x0 := X.at0
    have x1 := X.at1
    have t0 := X.th0
    have t1 := X.th1
    have lx := X.low
    clear X
    by_cases hlt : m < a.n
    · have hi : (m : Int) < (a.n : Int) := by omega
      have HM2 : Hid (MemTP (fun q => w.heap.size + 1 + 1 < q ∧ q < (wW wr (w.heap.size + 1 + 1) (.int .i64 k) (.slice b n cap)).heap.size) (wW wr (w.heap.size + 1 + 1) (.int .i64 k) (.slice b n cap)) (rtN (m + 1) a.k) #[.int .i64 5, .slice (some ⟨wr.heap.size, 0, none⟩) 1 1]) := hide (wW_mem lx (unhide HM))
      have HX2 := hide (((unhide HX).put (.int .i64 5) (.slice (some ⟨wr.heap.size, 0, none⟩) 1 1)).keep ((Below.refl _ _).alloc (Nat.le_refl _) (.cells #[.int .i64 k, .slice b n cap] 33)) (by simpa using lx))
      have HY2 := hide ((((unhide HY).other (q := w.heap.size + 1 + 1) (by omega) 0 (.int .i64 5)).other (q := w.heap.size + 1 + 1) (by omega) 1 (.slice (some ⟨wr.heap.size, 0, none⟩) 1 1)).keep ((Below.refl _ _).alloc (Nat.le_refl _) (.cells #[.int .i64 k, .slice b n cap] 33)) (by simpa using (unhide HY).low))
      have HB2 := hide ((((unhide HB).setCell (p := ⟨w.heap.size + 1 + 1, 0, none⟩) (by simp; omega) (.int .i64 5)).setCell (p := ⟨w.heap.size + 1 + 1, 1, none⟩) (by simp; omega) (.slice (some ⟨wr.heap.size, 0, none⟩) 1 1)).alloc (by have := (unhide HB).size; simpa using this) (.cells #[.int .i64 k, .slice b n cap] 33))
      clear HM HX HY HB
      go_wp2
      go_roundw
      case rel => exact ⟨m + 1, 5, some ⟨wr.heap.size, 0, none⟩, 1, 1, by omega, by go_num, HY2, HX2, HM2, HB2⟩
      case measure => simp [intOf]; omega
    · obtain rfl : m = a.n := by omega
      have Y := unhide HY
      have g0 := Y.at0
      have g1 := Y.at1
      have h0 := Y.th0
      have h1 := Y.th1
      have l2 := Y.low
      have R := Y.put (.int .i64 k) (.slice b n cap)
      have r0 := hide R.at0
      have r1 := hide R.at1
      have HM2 : Hid (MemTP (fun q => w.heap.size ≤ q ∧ q < ((wr.setCell ⟨w.heap.size + 1, 0, none⟩ (.int .i64 k)).setCell ⟨w.heap.size + 1, 1, none⟩ (.slice b n cap)).heap.size) ((wr.setCell ⟨w.heap.size + 1, 0, none⟩ (.int .i64 k)).setCell ⟨w.heap.size + 1, 1, none⟩ (.slice b n cap)) (rt a) #[.int .i64 k, .slice b n cap]) := by
        refine hide (MemTP.keep (fun q hq => ⟨⟨by omega, by simpa using hq.2⟩, fun o => ?_⟩) (unhide HM))
        refine World.cell?_of_block (w := wr) (a := ⟨q, o, none⟩) ?_
        rw [Below.heap_setCell _ _ _ _ (by simp; omega), Below.heap_setCell _ _ _ _ (by simp; omega)]
      clear Y R HX HY HM
      go_wp2
      refine bodyPost_ret (v := .agg #[.int .i64 k, .slice b n cap]) ?_ rfl ⟨_, rfl, unhide HM2, ?_⟩
      · simp [results, Tryz.results11, go_sem, unhide r0, unhide r1]
      · exact ((unhide HB).setCell (by simp) _).setCell (by simp) _

theorem memTP_via {w0 wp w3 : World} {T : TT} {v : Array Value} (h : Below w0.heap.size w0 wp) (k : MemTP (fun q => wp.heap.size ≤ q ∧ q < w3.heap.size) w3 T v) : MemTP (fun q => w0.heap.size ≤ q ∧ q < w3.heap.size) w3 T v :=
  MemTP.keep (fun _ hq => ⟨⟨Nat.le_trans h.size hq.1, hq.2⟩, fun _ => rfl⟩) k
theorem MemTP.low {B : Nat} {w : World} {T : TT} {v : Array Value} (k : MemTP (fun q => B ≤ q ∧ q < w.heap.size) w T v) : MemT w.heap.size w T v :=
  MemTP.keep (fun _ hq => ⟨hq.2, fun _ => rfl⟩) k
/-- a new type, when an elder block is written -/
theorem MemTP.put {B p : Nat} {w : World} {T : TT} {v : Array Value} (k : MemTP (fun q => B ≤ q ∧ q < w.heap.size) w T v) (hp : p < B) (x y : Value) :
    MemTP (fun q => B ≤ q ∧ q < ((w.setCell ⟨p, 0, none⟩ x).setCell ⟨p, 1, none⟩ y).heap.size) ((w.setCell ⟨p, 0, none⟩ x).setCell ⟨p, 1, none⟩ y) T v := by
  refine MemTP.keep (fun q hq => ⟨⟨hq.1, by simpa using hq.2⟩, fun o => ?_⟩) k
  refine World.cell?_of_block (w := w) (a := ⟨q, o, none⟩) ?_
  rw [Below.heap_setCell _ _ _ _ (by simp; omega), Below.heap_setCell _ _ _ _ (by simp; omega)]
end Go.Proofs.YtdgojpjmhalilaaGreatDoor

/- Walks: Fits, Join, Wrong of types; the same types. -/
namespace Go.Proofs.YtdgojpjmhalilaaGreatDoor
open Go.RowKit
end Go.Proofs.YtdgojpjmhalilaaGreatDoor

/- Walks: Join of types. -/
namespace Go.Proofs.YtdgojpjmhalilaaGreatDoor
open Go.RowKit
end Go.Proofs.YtdgojpjmhalilaaGreatDoor

/- Walks: what is wrong with a type. -/
namespace Go.Proofs.YtdgojpjmhalilaaGreatDoor
open Go.RowKit

theorem wT1 {d : Nat} {T : TT} (h : 10 < d) : wrongTy d T = 4 := by
  cases T with
  | mk k ks =>
    rcases ks with _ | ⟨e, _ | ⟨f, r⟩⟩
    · rw [wrongTy_leaf, if_pos (by omega)]
    · rw [wrongTy_one, if_pos (by omega)]
    · rw [wrongTy_more, if_pos (by omega)]
theorem wT2 {d : Nat} {k : Int} {ks : List TT} (h : ¬ 10 < d) (g : k < 1 ∨ 6 < k) : wrongTy d (.mk k ks) = 1 := by
  rcases ks with _ | ⟨e, _ | ⟨f, r⟩⟩
  · rw [wrongTy_leaf, if_neg (by omega), if_pos g]
  · rw [wrongTy_one, if_neg (by omega), if_pos g]
  · rw [wrongTy_more, if_neg (by omega), if_pos g]
theorem wT3 {d : Nat} {k : Int} {ks : List TT} (h : ¬ 10 < d) (g : ¬ (k < 1 ∨ 6 < k)) (q : k ≠ 5) (l : ks.length ≠ 0) : wrongTy d (.mk k ks) = 5 := by
  rcases ks with _ | ⟨e, _ | ⟨f, r⟩⟩
  · simp at l
  · rw [wrongTy_one, if_neg (by omega), if_neg g, if_pos q]
  · rw [wrongTy_more, if_neg (by omega), if_neg g]
theorem wT4 {d : Nat} {k : Int} {ks : List TT} (h : ¬ 10 < d) (g : ¬ (k < 1 ∨ 6 < k)) (q : k ≠ 5) (l : ks.length = 0) : wrongTy d (.mk k ks) = 0 := by
  obtain rfl := List.length_eq_zero_iff.1 l
  rw [wrongTy_leaf, if_neg (by omega), if_neg g, if_pos q]
theorem wT5 {d : Nat} {ks : List TT} (h : ¬ 10 < d) (l : ks.length ≠ 1) : wrongTy d (.mk 5 ks) = 5 := by
  rcases ks with _ | ⟨e, _ | ⟨f, r⟩⟩
  · rw [wrongTy_leaf, if_neg (by omega), if_neg (by omega), if_neg (by omega)]
  · simp at l
  · rw [wrongTy_more, if_neg (by omega), if_neg (by omega)]
theorem wT6 {d : Nat} {e : TT} (h : ¬ 10 < d) : wrongTy d (.mk 5 [e]) = wrongTy (d + 1) e := by
  rw [wrongTy_one, if_neg (by omega), if_neg (by omega), if_neg (by omega)]

set_option maxHeartbeats 4000000 in
theorem tWrong_any (T : TT) (u : Array Value) (w : World) (hu : MemT w.heap.size w T u) :
    Calls Tryz.prog 17 #[.agg u] w fun e w' => e = .returned (.int .i64 (wrongTy 1 T)) ∧ Below w.heap.size w w' := by
  obtain ⟨k1, a1, n1, c1, rfl⟩ := hu.form
  have HU := hide hu
  clear hu
  obtain ⟨R, hR⟩ : ∃ R, R = wrongTy 1 T := ⟨_, rfl⟩
  rw [← hR]
  have HR := hide hR.symm
  clear hR
  have X0 := hide (Bx2.new w 33 (.int .i64 k1) (.slice a1 n1 c1))
  have B0 := hide ((Below.refl w.heap.size w).alloc (Nat.le_refl _) (.cells #[.int .i64 k1, .slice a1 n1 c1] 33))
  go_enter Tryz.func17, Tryz.ntmps17
  go_wp2_with fail
  go_loopw [3] (fun i wr => ∃ (d : Nat) (T' : TT) (k : Int) (a : Option Addr) (n c : Nat), 1 ≤ d ∧ d ≤ 11 ∧ i = .int .i64 (d : Int) ∧ Hid (wrongTy d T' = R) ∧ Hid (Bx2 wr w.heap.size (.int .i64 k) (.slice a n c)) ∧ Hid (MemT w.heap.size w T' #[.int .i64 k, .slice a n c]) ∧ Hid (Below w.heap.size w wr)) (fun i _ => 11 - (intOf i).toNat)
  case atStart => exact ⟨1, T, k1, a1, n1, c1, by omega, by omega, rfl, HR, X0, HU, B0⟩
  case round =>
    obtain ⟨d, T', k, a, n, c, hd1, hd2, rfl, HT, HX, HM, HB⟩ := hrel
    clear X0 B0 HU HR
    have X := unhide HX
    have x0 := X.at0
    have x1 := X.at1
    have t0 := X.th0
    have t1 := X.th1
    have lx := X.low
    clear X
    cases T' with
    | mk k' ks =>
      have hM := unhide HM
      obtain ⟨hl, a', c', hv⟩ := MemTP.any hM
      simp only [Array.mk.injEq, List.cons.injEq, and_true, Value.int.injEq, Value.slice.injEq, true_and] at hv
      obtain ⟨rfl, rfl, rfl, rfl⟩ := hv
      by_cases h1 : 10 < d
      · have e := wT1 (T := .mk k ks) h1
        rw [unhide HT] at e
        have HE := hide e
        have h1' : (10 : Int) < (d : Int) := by omega
        clear e HT HX HM hM
        go_wp2
        go_ret
        exact ⟨by rw [unhide HE]; rfl, unhide HB⟩
      have h1' : ¬ (10 : Int) < (d : Int) := by omega
      by_cases h2 : k < 1 ∨ 6 < k
      · have e := wT2 (ks := ks) h1 h2
        rw [unhide HT] at e
        have HE := hide e
        clear e HT HX HM hM
        rcases Int.lt_or_le k 1 with h3 | h3
        · clear h2
          go_wp2
          go_ret
          exact ⟨by rw [unhide HE]; rfl, unhide HB⟩
        · have h4 : 6 < k := by omega
          have h5 : ¬ k < 1 := by omega
          clear h2
          go_wp2
          go_ret
          exact ⟨by rw [unhide HE]; rfl, unhide HB⟩
      have h3 : ¬ k < 1 := by omega
      have h4 : ¬ 6 < k := by omega
      by_cases h5 : k = 5
      · subst h5
        by_cases h6 : ks.length = 1
        · obtain ⟨e, rfl⟩ := List.length_eq_one_iff.1 h6
          obtain ⟨b, off, cap, y0, y1, hv, hlb, q0, q1, hK⟩ := MemTP.kid hM
          simp only [Array.mk.injEq, List.cons.injEq, and_true, Value.slice.injEq, true_and] at hv
          obtain ⟨rfl, _, rfl⟩ := hv
          obtain ⟨k', a', n', cap', hy⟩ := hK.form
          simp only [Array.mk.injEq, List.cons.injEq, and_true] at hy
          obtain ⟨rfl, rfl⟩ := hy
          rw [← (unhide HB).cell (p := ⟨b, off, none⟩) hlb] at q0
          rw [← (unhide HB).cell (p := ⟨b, off + 1, none⟩) hlb] at q1
          have e1 := wT6 (e := e) h1
          rw [unhide HT] at e1
          have HE := hide e1.symm
          have HK : Hid (MemT w.heap.size w e #[.int .i64 k', .slice a' n' cap']) := hide hK
          have HX2 := hide ((unhide HX).put (.int .i64 k') (.slice a' n' cap'))
          have HB2 := hide (((unhide HB).setCell (p := ⟨w.heap.size, 0, none⟩) (Nat.le_refl _) (.int .i64 k')).setCell (p := ⟨w.heap.size, 1, none⟩) (Nat.le_refl _) (.slice a' n' cap'))
          clear e1 HT HX HM hM hK HB h6 h2
          go_wp2
          go_roundw
          case rel => exact ⟨d + 1, e, k', a', n', cap', by omega, by omega, by go_num, HE, HX2, HK, HB2⟩
          case measure => simp [intOf]; omega
        · have e := wT5 (ks := ks) h1 h6
          rw [unhide HT] at e
          have HE := hide e
          have h7 : ((ks.length : Int) == 1) = false := by simp; omega
          clear e HT HX HM hM h2
          go_wp2
          go_ret
          exact ⟨by rw [unhide HE]; rfl, unhide HB⟩
      · have h8 : (k == 5) = false := by simpa using h5
        by_cases h6 : ks.length = 0
        · have e := wT4 (ks := ks) h1 h2 h5 h6
          rw [unhide HT] at e
          have HE := hide e
          obtain rfl := List.length_eq_zero_iff.1 h6
          simp only [List.length_nil] at x1
          clear e HT HX HM hM h2 h6
          go_wp2
          go_ret
          exact ⟨by rw [unhide HE]; rfl, unhide HB⟩
        · have e := wT3 (ks := ks) h1 h2 h5 h6
          rw [unhide HT] at e
          have HE := hide e
          have h7 : ((ks.length : Int) != 0) = true := by
            have : ¬ (ks.length : Int) = 0 := by omega
            simpa using this
          clear e HT HX HM hM h2
          go_wp2
          go_ret
          exact ⟨by rw [unhide HE]; rfl, unhide HB⟩
end Go.Proofs.YtdgojpjmhalilaaGreatDoor

/- Walks: types that are the same. -/
namespace Go.Proofs.YtdgojpjmhalilaaGreatDoor
open Go.RowKit

set_option maxHeartbeats 4000000 in
theorem same_no (T S : TT) (u v : Array Value) (w : World) (hu : MemT w.heap.size w T u) (hv : MemT w.heap.size w S v) (h : T.kind ≠ S.kind ∨ T.kids.length ≠ S.kids.length) :
    Calls Tryz.prog 6 #[.agg u, .agg v] w fun e w' => e = .returned (.bool false) ∧ Below w.heap.size w w' := by
  obtain ⟨k1, ks1⟩ := T
  obtain ⟨k2, ks2⟩ := S
  obtain ⟨l1, a1, c1, rfl⟩ := hu.any
  obtain ⟨l2, a2, c2, rfl⟩ := hv.any
  have HB := hide (((Below.refl w.heap.size w).alloc (Nat.le_refl _) (.cells #[.int .i64 k1, .slice a1 ks1.length c1] 33)).alloc (by simp) (.cells #[.int .i64 k2, .slice a2 ks2.length c2] 33))
  clear hu hv
  simp only [TT.kind, TT.kids] at h
  by_cases h1 : k1 = k2
  · subst h1
    have h2 : ((ks1.length : Int) != (ks2.length : Int)) = true := by
      have : ¬ (ks1.length : Int) = (ks2.length : Int) := by omega
      simpa using this
    clear h
    go_enter Tryz.func6, Tryz.ntmps6
    go_wp2
    go_ret
    exact ⟨rfl, unhide HB⟩
  · have h2 : (k1 != k2) = true := by simpa using h1
    clear h
    go_enter Tryz.func6, Tryz.ntmps6
    go_wp2
    go_ret
    exact ⟨rfl, unhide HB⟩

set_option maxHeartbeats 4000000 in
theorem same_leaf (k : Int) (u v : Array Value) (w : World) (hu : MemT w.heap.size w (.mk k []) u) (hv : MemT w.heap.size w (.mk k []) v) :
    Calls Tryz.prog 6 #[.agg u, .agg v] w fun e w' => e = .returned (.bool true) ∧ Below w.heap.size w w' := by
  obtain ⟨a1, c1, rfl⟩ := hu.leaf
  obtain ⟨a2, c2, rfl⟩ := hv.leaf
  have HB := hide (((Below.refl w.heap.size w).alloc (Nat.le_refl _) (.cells #[.int .i64 k, .slice a1 0 c1] 33)).alloc (by simp) (.cells #[.int .i64 k, .slice a2 0 c2] 33))
  clear hu hv
  go_enter Tryz.func6, Tryz.ntmps6
  go_wp2_with fail
  refine wp_loop_rounds 1 ?_
  rw [rounds_succ]
  go_wp2
  go_ret
  exact ⟨rfl, unhide HB⟩

set_option maxHeartbeats 4000000 in
theorem same_step (T S : TT) (r : Bool) (u v : Array Value) (w : World) (hu : MemT w.heap.size w (.mk 5 [T]) u) (hv : MemT w.heap.size w (.mk 5 [S]) v)
    (ih : ∀ (u v : Array Value) (w : World), MemT w.heap.size w T u → MemT w.heap.size w S v → Calls Tryz.prog 6 #[.agg u, .agg v] w fun e w' => e = .returned (.bool r) ∧ Below w.heap.size w w') :
    Calls Tryz.prog 6 #[.agg u, .agg v] w fun e w' => e = .returned (.bool r) ∧ Below w.heap.size w w' := by
  obtain ⟨b1, o1, c1, y0, y1, rfl, p1, q0, q1, hT⟩ := hu.kid
  obtain ⟨b2, o2, c2, z0, z1, rfl, p2, s0, s1, hS⟩ := hv.kid
  have B0 := ((Below.refl w.heap.size w).alloc (Nat.le_refl _) (.cells #[.int .i64 5, .slice (some ⟨b1, o1, none⟩) 1 c1] 33)).alloc (by simp) (.cells #[.int .i64 5, .slice (some ⟨b2, o2, none⟩) 1 c2] 33)
  have IH := hide (fun wx (h : Below w.heap.size w wx) => ih _ _ wx (MemT.grow hT h) (MemT.grow hS h))
  rw [← B0.cell (p := ⟨b1, o1, none⟩) p1] at q0
  rw [← B0.cell (p := ⟨b1, o1 + 1, none⟩) p1] at q1
  rw [← B0.cell (p := ⟨b2, o2, none⟩) p2] at s0
  rw [← B0.cell (p := ⟨b2, o2 + 1, none⟩) p2] at s1
  have HB := hide B0
  clear hu hv B0 hT hS ih
  go_enter Tryz.func6, Tryz.ntmps6
  go_wp2_with fail
  have X0 := (Bx2.new w 33 (.int .i64 5) (.slice (some ⟨b1, o1, none⟩) 1 c1)).keep ((Below.refl _ _).alloc (Nat.le_refl _) (.cells #[.int .i64 5, .slice (some ⟨b2, o2, none⟩) 1 c2] 33)) (by simp)
  have X1 : Bx2 ((w.alloc (.cells #[.int .i64 5, .slice (some ⟨b1, o1, none⟩) 1 c1] 33)).alloc (.cells #[.int .i64 5, .slice (some ⟨b2, o2, none⟩) 1 c2] 33)) (w.heap.size + 1) (.int .i64 5) (.slice (some ⟨b2, o2, none⟩) 1 c2) := by simpa using Bx2.new (w.alloc (.cells #[.int .i64 5, .slice (some ⟨b1, o1, none⟩) 1 c1] 33)) 33 (.int .i64 5) (.slice (some ⟨b2, o2, none⟩) 1 c2)
  generalize (w.alloc (.cells #[.int .i64 5, .slice (some ⟨b1, o1, none⟩) 1 c1] 33)).alloc (.cells #[.int .i64 5, .slice (some ⟨b2, o2, none⟩) 1 c2] 33) = w0 at *
  have x1 := X0.at1
  have x3 := X1.at1
  clear X0 X1
  refine wp_loop_rounds 2 ?_
  rw [rounds_succ]
  go_wp2_with fail
  go_region_with ((refine (unhide IH _ ?_).mono ?_; · exact below_via (unhide HB) (by repeat (first | assumption | exact Below.refl _ _ | apply Below.drew))); rintro e w2 ⟨rfl, hb⟩; replace hb : Below w0.heap.size w0 w2 := below_via (by repeat (first | assumption | exact Below.refl _ _ | apply Below.drew)) hb)
  all_goals
    have HB2 := hide (below_via (unhide HB) hb)
    clear hb q0 q1 s0 s1 IH HB
    cases r with
    | true =>
      go_wp2_with fail
      rw [rounds_succ]
      go_wp2
      go_ret
      exact ⟨rfl, unhide HB2⟩
    | false =>
      go_wp2
      go_ret
      exact ⟨rfl, unhide HB2⟩

theorem same_rtN : ∀ (n m : Nat) (k l : Int), k ≠ 5 → l ≠ 5 → ∀ (u v : Array Value) (w : World), MemT w.heap.size w (rtN n k) u → MemT w.heap.size w (rtN m l) v →
    Calls Tryz.prog 6 #[.agg u, .agg v] w fun e w' => e = .returned (.bool (decide (n = m ∧ k = l))) ∧ Below w.heap.size w w'
  | 0, 0, k, l, hk, hl, u, v, w, hu, hv => by
    by_cases h : k = l
    · subst h
      rw [decide_eq_true ⟨rfl, rfl⟩]
      exact same_leaf k u v w hu hv
    · rw [decide_eq_false (fun e => h e.2)]
      exact same_no _ _ u v w hu hv (Or.inl h)
  | 0, m + 1, k, l, hk, hl, u, v, w, hu, hv => by
    rw [decide_eq_false (fun e => by have := e.1; omega)]
    exact same_no _ _ u v w hu hv (Or.inl hk)
  | n + 1, 0, k, l, hk, hl, u, v, w, hu, hv => by
    rw [decide_eq_false (fun e => by have := e.1; omega)]
    exact same_no _ _ u v w hu hv (Or.inl hl.symm)
  | n + 1, m + 1, k, l, hk, hl, u, v, w, hu, hv => by
    have e : decide (n + 1 = m + 1 ∧ k = l) = decide (n = m ∧ k = l) := by simp
    rw [e]
    exact same_step _ _ _ u v w hu hv (same_rtN n m k l hk hl)
theorem same_any (a b : Sp) (u v : Array Value) (w : World) (ka : a.k ≠ 5) (kb : b.k ≠ 5) (hu : MemT w.heap.size w (rt a) u) (hv : MemT w.heap.size w (rt b) v) :
    Calls Tryz.prog 6 #[.agg u, .agg v] w fun e w' => e = .returned (.bool (decide (a = b))) ∧ Below w.heap.size w w' := by
  have e : decide (a = b) = decide (a.n = b.n ∧ a.k = b.k) := by
    by_cases h : a = b
    · subst h; simp
    · rw [decide_eq_false h, decide_eq_false (fun e => h (Sp.eq e.1 e.2))]
  rw [e]
  exact same_rtN _ _ _ _ ka kb u v w hu hv
end Go.Proofs.YtdgojpjmhalilaaGreatDoor

/- Walks: the table of functions is made. -/
namespace Go.Proofs.YtdgojpjmhalilaaGreatDoor
open Go.RowKit Go.MapKept

/-- a new map with texts for keys -/
structure MapIn (w0 : World) (b : Nat) (w : World) : Prop where
  lo : w0.heap.size ≤ b
  low : b < w.heap.size
  map : ∃ es clock, w.heap[b]? = some (.map es clock) ∧ ∀ x ∈ es.toList, IsKey .string x.key
  old : Below w0.heap.size w0 w
theorem MapIn.keep {w0 w w' : World} {b : Nat} (h : MapIn w0 b w) (hb : Below w.heap.size w w') : MapIn w0 b w' := by
  obtain ⟨es, c, h1, h2⟩ := h.map
  exact ⟨h.lo, Nat.lt_of_lt_of_le h.low hb.size, ⟨es, c, (hb.block b h.low).trans h1, h2⟩, below_via h.old hb⟩
theorem MapIn.new (w : World) : MapIn w w.heap.size (w.alloc (.map #[] 0)) :=
  ⟨Nat.le_refl _, by simp, ⟨#[], 0, by show (w.heap.push _)[w.heap.size]? = _; simp, by simp⟩, (Below.refl _ _).alloc (Nat.le_refl _) _⟩
theorem MapIn.set {w0 w : World} {b : Nat} (h : MapIn w0 b w) (es : Array MapEntry) (c : Nat) (hk : ∀ x ∈ es.toList, IsKey .string x.key) : MapIn w0 b { w with heap := w.heap.setIfInBounds b (.map es c) } := by
  have l := h.low
  refine ⟨h.lo, by simpa using l, ⟨es, c, by simp [l], hk⟩, h.old.os, h.old.tape, h.old.output, by simpa using h.old.size, fun k hk => ?_⟩
  have hne : ¬ b = k := by have := h.lo; omega
  simp only [Array.getElem?_setIfInBounds, if_neg hne]
  exact h.old.block k hk
theorem MapIn.ins {w0 w : World} {b : Nat} {t kt et : TypeId} (h : MapIn w0 b w) (hm : Tryz.prog.underlying t = some (.map kt et)) (hd : Tryz.prog.underlying kt = some .string) (s : ByteArray) (v : Value) :
    ∃ w2, (Instr.mapUpdate t (.map (some b)) (.string s) v).run Tryz.prog w = .ok () w2 ∧ MapIn w0 b w2 := by
  obtain ⟨es, c, hb, hks⟩ := h.map
  have hk : IsKey .string (.string s) := trivial
  rcases findNow_spec hk es.toList 0 hks with ⟨h1, _⟩ | ⟨j, e, h1, h2, h3⟩
  · refine ⟨_, by simp [Instr.mapUpdate, run_underlying hm, MapKept.run_getObj_map hb, run_checkKey hd hk, run_findKey hd h1, MapKept.run_setObj_map _ hb, Result.andThen]; rfl, h.set _ _ ?_⟩
    intro x hx
    simp only [Array.toList_push, List.mem_append, List.mem_singleton] at hx
    rcases hx with hx | rfl
    · exact hks x hx
    · exact hk
  · have hj : es[j]? = some e := by simpa using h2
    refine ⟨_, by simp [Instr.mapUpdate, run_underlying hm, MapKept.run_getObj_map hb, run_checkKey hd hk, run_findKey hd h1, hj, h3, run_keyThatStays hk, MapKept.run_setObj_map _ hb, Result.andThen]; rfl, h.set _ _ ?_⟩
    intro x hx
    rcases MapFrom.mem_modify hx with hx | ⟨e', _, rfl⟩
    · exact hks x hx
    · exact hk
set_option maxRecDepth 100000 in
theorem upon_ins {w0 w : World} {b : Nat} {o : Oper} {a : Act} {K : Act → World → Prop} {Q : Exit → Act → World → Prop} {s : ByteArray} {v : Value} {t kt et : TypeId} (hm : Tryz.prog.underlying t = some (.map kt et)) (hd : Tryz.prog.underlying kt = some .string)
    (M : MapIn w0 b w) (h : ∀ w2, MapIn w0 b w2 → Oper.upon Tryz.prog o a K Q (.ok .skip w2)) :
    Oper.upon Tryz.prog o a K Q (((Instr.mapUpdate t (.map (some b)) (.string s) v).run Tryz.prog w).andThen fun _ w' => .ok .skip w') := by
  obtain ⟨w2, hr, M2⟩ := M.ins hm hd s v
  rw [hr, Result.andThen_ok]
  exact h w2 M2

set_option maxHeartbeats 4000000 in
theorem always_any (k : Int) (w : World) :
    Calls Tryz.prog 35 #[.int .i64 k] w fun e w' => ∃ f x y, e = .returned (.func f x y) ∧ Below w.heap.size w w' := by
  go_enter Tryz.func35, Tryz.ntmps35
  go_wp2_with fail
  go_ret
  exact ⟨_, _, _, rfl, (Below.refl _ _).alloc (Nat.le_refl _) _⟩

end Go.Proofs.YtdgojpjmhalilaaGreatDoor

/- Walks: what is wrong with a list that is empty, as an expression. -/
namespace Go.Proofs.YtdgojpjmhalilaaGreatDoor
open Go.RowKit

/-- the expression of an empty list -/
abbrev xl : Value := .agg #[.int .i64 19, .int .i64 0, .bool false, .int .i64 0, .int .i64 0, .string ⟨#[]⟩, .slice none 0 0, .string ⟨#[]⟩, .slice none 0 0]

abbrev xlo : Obj := .cells #[.int .i64 19, .int .i64 0, .bool false, .int .i64 0, .int .i64 0, .string ⟨#[]⟩, .slice none 0 0, .string ⟨#[]⟩, .slice none 0 0] 29

set_option maxHeartbeats 4000000 in
theorem hasName_19 (w : World) : Calls Tryz.prog 70 #[.int .i64 19] w fun e w' => e = .returned (.bool false) ∧ w' = w := by
  go_enter Tryz.func70, Tryz.ntmps70
  go_wp2
  go_ret
  exact ⟨rfl, rfl⟩

set_option maxHeartbeats 4000000 in
theorem kidsOf_19 (w : World) : Calls Tryz.prog 71 #[.int .i64 19] w fun e w' => e = .returned (.tuple #[.int .i64 0, .int .i64 200]) ∧ w' = w := by
  go_enter Tryz.func71, Tryz.ntmps71
  go_wp2
  exact bodyPost_ret (v := .tuple #[.int .i64 0, .int .i64 200]) (by simp [results, Tryz.results71, go_sem]) rfl ⟨rfl, rfl⟩

set_option maxHeartbeats 4000000 in
theorem wrongNode_xl (w : World) : Calls Tryz.prog 57 #[xl] w fun e w' => e = .returned (.int .i64 0) ∧ w' = w.alloc xlo := by
  go_enter Tryz.func57, Tryz.ntmps57
  go_wp2_with fail
  refine (hasName_19 _).mono ?_
  rintro e w1 ⟨rfl, rfl⟩
  go_wp2_with fail
  refine (kidsOf_19 _).mono ?_
  rintro e w1 ⟨rfl, rfl⟩
  go_wp2
  go_ret
  exact ⟨rfl, rfl⟩

set_option maxHeartbeats 4000000 in
theorem lookWrong_xl (p : Nat) (w : World) (lp : p < w.heap.size) (h0 : w.cell? ⟨p, 0, none⟩ = some (.int .i64 0)) (h1 : w.frozen? ⟨p, 0, none⟩ = false) :
    Calls Tryz.prog 32 #[.pointer (some ⟨p, 0, none⟩), xl, .int .i64 1] w fun e w' => e = .returned (.int .i64 0) ∧ Below p w w' := by
  have hne : ¬ p = w.heap.size := by omega
  go_enter Tryz.func32, Tryz.ntmps32
  go_wp2_with fail
  refine (wrongNode_xl _).mono ?_
  rintro e w1 ⟨rfl, rfl⟩
  go_wp2_with fail
  refine wp_loop_rounds 1 ?_
  rw [rounds_succ]
  go_wp2
  go_ret
  exact ⟨rfl, (((Below.refl p w).setCell (Nat.le_refl _) _).alloc (by simp; omega) _).alloc (by simp; omega) _⟩

set_option maxHeartbeats 4000000 in
theorem synWrong_xl (w : World) : Calls Tryz.prog 15 #[xl] w fun e w' => e = .returned (.int .i64 0) ∧ Below w.heap.size w w' := by
  have B0 := hide (((Below.refl w.heap.size w).alloc (Nat.le_refl _) xlo).alloc (by simp) (.cells #[.int .i64 0] 86))
  go_enter Tryz.func15, Tryz.ntmps15
  go_wp2_with fail
  refine (lookWrong_xl (w.heap.size + 1) _ (by simp) (by go_simp) (by go_simp)).mono ?_
  rintro e w1 ⟨rfl, hb⟩
  have B1 := hide ((unhide B0).trans (hb.mono (by omega)))
  clear hb
  go_wp2
  go_ret
  exact ⟨rfl, unhide B1⟩
end Go.Proofs.YtdgojpjmhalilaaGreatDoor
