/- The walk over DecRises, out of what its callees come to. -/
import Derived.Test.YthgiepppcpjpaaaL2
import Derived.Deep.CutBlock
namespace Go.Proofs.Ythgiepppcpjpaaa
open Go.RowKit

/-- block nb holds the number (a, b), and may be written -/
def Box (w : World) (nb : Nat) (a b : Int) : Prop :=
  nb < w.heap.size ∧ w.cell? ⟨nb, 0, none⟩ = some (.int .i64 a) ∧ w.cell? ⟨nb, 1, none⟩ = some (.int .i64 b) ∧ w.frozen? ⟨nb, 0, none⟩ = false ∧ w.frozen? ⟨nb, 1, none⟩ = false
theorem Box.below {w w' : World} {nb : Nat} {a b : Int} (h : Box w nb a b) (hb : Below w.heap.size w w') : Box w' nb a b := by
  obtain ⟨l, c0, c1, f0, f1⟩ := h
  exact ⟨Nat.lt_of_lt_of_le l hb.size, (hb.cell (p := ⟨nb, 0, none⟩) l).trans c0, (hb.cell (p := ⟨nb, 1, none⟩) l).trans c1, (hb.frozen (p := ⟨nb, 0, none⟩) l).trans f0, (hb.frozen (p := ⟨nb, 1, none⟩) l).trans f1⟩
theorem Box.new (w : World) (a b : Int) : Box (w.alloc (.cells #[.int .i64 a, .int .i64 b] 23)) w.heap.size a b :=
  ⟨by simp, by simp [go_sem], by simp [go_sem], by simp [go_sem], by simp [go_sem]⟩
theorem Box.old {w : World} {nb : Nat} {a b : Int} (h : Box w nb a b) (o : Obj) : Box (w.alloc o) nb a b := h.below ((Below.refl _ _).alloc (Nat.le_refl _) _)
theorem Box.other {w : World} {nb : Nat} {a b : Int} (h : Box w nb a b) {m j : Nat} (hm : m ≠ nb) (v : Value) : Box (w.setCell ⟨m, j, none⟩ v) nb a b := by
  obtain ⟨l, c0, c1, f0, f1⟩ := h
  have e := Below.heap_setCell w ⟨m, j, none⟩ v nb (fun q => hm q.symm)
  exact ⟨by simpa [World.setCell] using l, (World.cell?_of_block (w := w) (a := ⟨nb, 0, none⟩) e).trans c0, (World.cell?_of_block (w := w) (a := ⟨nb, 1, none⟩) e).trans c1, (World.frozen?_of_block (w := w) (a := ⟨nb, 0, none⟩) e).trans f0, (World.frozen?_of_block (w := w) (a := ⟨nb, 1, none⟩) e).trans f1⟩
theorem Box.first {w : World} {nb : Nat} {a b : Int} (h : Box w nb a b) (v : Int) : Box (w.setCell ⟨nb, 0, none⟩ (.int .i64 v)) nb v b := by
  obtain ⟨l, c0, c1, f0, f1⟩ := h
  exact ⟨by simpa [World.setCell] using l, by simp [go_sem, c0], by simp [go_sem, c1], by simp [go_sem, f0], by simp [go_sem, f1]⟩
theorem Box.second {w : World} {nb : Nat} {a b : Int} (h : Box w nb a b) (v : Int) : Box (w.setCell ⟨nb, 1, none⟩ (.int .i64 v)) nb a v := by
  obtain ⟨l, c0, c1, f0, f1⟩ := h
  exact ⟨by simpa [World.setCell] using l, by simp [go_sem, c0], by simp [go_sem, c1], by simp [go_sem, f0], by simp [go_sem, f1]⟩

def ok2 (s t : Int) : Bool := decide (s = 0 ∧ t = 0)
theorem ok2_yes {s t : Int} (h : s = 0) (g : t = 0) : ok2 s t = true := by unfold ok2; simp [h, g]
theorem ok2_no {s t : Int} (h : ¬ (s = 0 ∧ t = 0)) : ok2 s t = false := by unfold ok2; exact decide_eq_false h
theorem ok2_of {s t : Int} (h : ok2 s t = true) : s = 0 ∧ t = 0 := by unfold ok2 at h; exact of_decide_eq_true h

set_option maxRecDepth 100000 in
set_option maxHeartbeats 2000000 in
theorem rises_core (c1 x1 c2 x2 c3 x3 : Int) (w : World) (h1 : Dm.wrongN c1 x1 = 0) (h2 : Dm.wrongN c2 x2 = 0) (h3 : Dm.wrongN c3 x3 = 0) (s p1 p2 q1 q2 : Int)
    (CM : (∀ wx, Calls Try.prog 9 #[.agg #[.int .i64 c1, .int .i64 x1], .agg #[.int .i64 c2, .int .i64 x2]] wx fun e w' => e = .returned (.tuple #[.int .i64 s, .int .i64 0]) ∧ Below wx.heap.size wx w')) (SW : (¬ 0 < s ∧ p1 = c1 ∧ p2 = x1 ∧ q1 = c2 ∧ q2 = x2) ∨ (0 < s ∧ p1 = c2 ∧ p2 = x2 ∧ q1 = c1 ∧ q2 = x1)) (s1 s2 s3 t1 t2 t3 d1 m1 m2 m3 n1 n2 n3 d2 k3 : Int)
    (A1 : (∀ wx, Calls Try.prog 10 #[.agg #[.int .i64 p1, .int .i64 p2], .agg #[.int .i64 c3, .int .i64 x3]] wx fun e w' => e = .returned (.tuple #[.agg #[.int .i64 s1, .int .i64 s2], .int .i64 s3]) ∧ Below wx.heap.size wx w')) (A2 : (∀ wx, Calls Try.prog 10 #[.agg #[.int .i64 q1, .int .i64 q2], .agg #[.int .i64 c3, .int .i64 x3]] wx fun e w' => e = .returned (.tuple #[.agg #[.int .i64 t1, .int .i64 t2], .int .i64 t3]) ∧ Below wx.heap.size wx w'))
    (C1 : s3 = 0 → t3 = 0 → d1 ≤ 0 ∧ (∀ wx, Calls Try.prog 9 #[.agg #[.int .i64 s1, .int .i64 s2], .agg #[.int .i64 t1, .int .i64 t2]] wx fun e w' => e = .returned (.tuple #[.int .i64 d1, .int .i64 0]) ∧ Below wx.heap.size wx w'))
    (K : (c3 < 0 ∧ k3 = -c3) ∨ (¬ c3 < 0 ∧ k3 = c3)) (kb : -1000000000000000000 < c3)
    (M1 : (∀ wx, Calls Try.prog 11 #[.agg #[.int .i64 p1, .int .i64 p2], .agg #[.int .i64 k3, .int .i64 x3]] wx fun e w' => e = .returned (.tuple #[.agg #[.int .i64 m1, .int .i64 m2], .int .i64 m3]) ∧ Below wx.heap.size wx w')) (M2 : (∀ wx, Calls Try.prog 11 #[.agg #[.int .i64 q1, .int .i64 q2], .agg #[.int .i64 k3, .int .i64 x3]] wx fun e w' => e = .returned (.tuple #[.agg #[.int .i64 n1, .int .i64 n2], .int .i64 n3]) ∧ Below wx.heap.size wx w'))
    (C2 : m3 = 0 → n3 = 0 → d2 ≤ 0 ∧ (∀ wx, Calls Try.prog 9 #[.agg #[.int .i64 m1, .int .i64 m2], .agg #[.int .i64 n1, .int .i64 n2]] wx fun e w' => e = .returned (.tuple #[.int .i64 d2, .int .i64 0]) ∧ Below wx.heap.size wx w')) :
    Calls Try.prog 5 #[.agg #[.int .i64 c1, .int .i64 x1], .agg #[.int .i64 c2, .int .i64 x2], .agg #[.int .i64 c3, .int .i64 x3]] w fun e w' => e = .returned (.bool true) ∧ Below w.heap.size w w' := by
  have h1' := hide h1
  have h2' := hide h2
  have h3' := hide h3
  have CM' := hide CM
  have SW' := hide SW
  have A1' := hide A1
  have A2' := hide A2
  have C1' := hide C1
  have K' := hide K
  have M1' := hide M1
  have M2' := hide M2
  have C2' := hide C2
  clear h1 h2 h3 CM SW A1 A2 C1 K M1 M2 C2
  go_enter Try.func5, Try.ntmps5
  go_wp2_with fail
  refine (alive_any _).mono ?_
  rintro e wa ⟨rfl, hb⟩
  have X := Box.below (((Box.new w c1 x1).old _).old _) hb
  have Y := Box.below ((Box.new (w.alloc (.cells #[.int .i64 c1, .int .i64 x1] 23)) c2 x2).old (.cells #[.int .i64 c3, .int .i64 x3] 23)) hb
  have Z := Box.below (Box.new ((w.alloc (.cells #[.int .i64 c1, .int .i64 x1] 23)).alloc (.cells #[.int .i64 c2, .int .i64 x2] 23)) c3 x3) hb
  simp only [World.size_alloc] at Y Z
  have hw : Below w.heap.size w wa := ((((Below.refl w.heap.size w).alloc (Nat.le_refl _) _).alloc (by simp) _).alloc (by simp; omega) _).trans (hb.mono (by simp; omega))
  clear hb
  have X' := hide X
  have Y' := hide Y
  have Z' := hide Z
  obtain ⟨xl, xa, xb, xf, xg⟩ := X
  obtain ⟨yl, ya, yb, yf, yg⟩ := Y
  obtain ⟨zl, za, zb, zf, zg⟩ := Z
  go_wp2_with fail
  refine (wrong_is c1 x1 _ (unhide h1')).mono ?_
  rintro e wb ⟨rfl, hb⟩
  have X := (unhide X').below hb
  have Y := (unhide Y').below hb
  have Z := (unhide Z').below hb
  have hw := hw.trans (hb.mono hw.size)
  clear hb X' Y' Z' xl xa xb xf xg yl ya yb yf yg zl za zb zf zg
  have X' := hide X
  have Y' := hide Y
  have Z' := hide Z
  obtain ⟨xl, xa, xb, xf, xg⟩ := X
  obtain ⟨yl, ya, yb, yf, yg⟩ := Y
  obtain ⟨zl, za, zb, zf, zg⟩ := Z
  go_wp2_with fail
  refine (wrong_is c2 x2 _ (unhide h2')).mono ?_
  rintro e wc ⟨rfl, hb⟩
  have X := (unhide X').below hb
  have Y := (unhide Y').below hb
  have Z := (unhide Z').below hb
  have hw := hw.trans (hb.mono hw.size)
  clear hb X' Y' Z' xl xa xb xf xg yl ya yb yf yg zl za zb zf zg
  have X' := hide X
  have Y' := hide Y
  have Z' := hide Z
  obtain ⟨xl, xa, xb, xf, xg⟩ := X
  obtain ⟨yl, ya, yb, yf, yg⟩ := Y
  obtain ⟨zl, za, zb, zf, zg⟩ := Z
  go_wp2_with fail
  refine (wrong_is c3 x3 _ (unhide h3')).mono ?_
  rintro e wd ⟨rfl, hb⟩
  have X := (unhide X').below hb
  have Y := (unhide Y').below hb
  have Z := (unhide Z').below hb
  have hw := hw.trans (hb.mono hw.size)
  clear hb X' Y' Z' xl xa xb xf xg yl ya yb yf yg zl za zb zf zg
  have X' := hide X
  have Y' := hide Y
  have Z' := hide Z
  obtain ⟨xl, xa, xb, xf, xg⟩ := X
  obtain ⟨yl, ya, yb, yf, yg⟩ := Y
  obtain ⟨zl, za, zb, zf, zg⟩ := Z
  go_wp2_with fail
  refine (unhide CM' _).mono ?_
  rintro e we ⟨rfl, hb⟩
  have X := (unhide X').below hb
  have Y := (unhide Y').below hb
  have Z := (unhide Z').below hb
  have hw := hw.trans (hb.mono hw.size)
  clear hb X' Y' Z' xl xa xb xf xg yl ya yb yf yg zl za zb zf zg
  go_upto_if 39 with fail
  go_cut [] from 17 (fun wc => Box wc w.heap.size p1 p2 ∧ Box wc (w.heap.size + 1) q1 q2 ∧ Box wc (w.heap.size + 1 + 1) c3 x3 ∧ Below w.heap.size w wc)
  case first =>
    rcases unhide SW' with ⟨g, rfl, rfl, rfl, rfl⟩ | ⟨g, rfl, rfl, rfl, rfl⟩
    · go_wp2_with fail
      go_meet
      case rel => exact ⟨X, Y, Z, hw⟩
    · have X' := hide X
      have Y' := hide Y
      have Z' := hide Z
      obtain ⟨xl, xa, xb, xf, xg⟩ := X
      obtain ⟨yl, ya, yb, yf, yg⟩ := Y
      go_wp2_with fail
      go_meet
      case rel =>
        refine ⟨((((unhide X').first _).second _).other (by omega) _).other (by omega) _, (((((unhide Y').other (by omega) _).other (by omega) _).first _).second _), ((((unhide Z').other (by omega) _).other (by omega) _).other (by omega) _).other (by omega) _, (((hw.setCell (by simp) _).setCell (by simp) _).setCell (by simp) _).setCell (by simp) _⟩
  case rest =>
    clear X Y Z hw
    obtain ⟨X, Y, Z, hw⟩ := hcut
    have X' := hide X
    have Y' := hide Y
    have Z' := hide Z
    obtain ⟨xl, xa, xb, xf, xg⟩ := X
    obtain ⟨yl, ya, yb, yf, yg⟩ := Y
    obtain ⟨zl, za, zb, zf, zg⟩ := Z
    go_wp2_with fail
    refine (unhide A1' _).mono ?_
    rintro e wf ⟨rfl, hb⟩
    have X := (unhide X').below hb
    have Y := (unhide Y').below hb
    have Z := (unhide Z').below hb
    have hw := hw.trans (hb.mono hw.size)
    clear hb X' Y' Z' xl xa xb xf xg yl ya yb yf yg zl za zb zf zg
    have hZf := Z.1
    have U := Box.new wf s1 s2
    have X := X.old (.cells #[.int .i64 s1, .int .i64 s2] 23)
    have Y := Y.old (.cells #[.int .i64 s1, .int .i64 s2] 23)
    have Z := Z.old (.cells #[.int .i64 s1, .int .i64 s2] 23)
    have hw := hw.alloc hw.size (.cells #[.int .i64 s1, .int .i64 s2] 23)
    have X' := hide X
    have Y' := hide Y
    have Z' := hide Z
    have U' := hide U
    obtain ⟨xl, xa, xb, xf, xg⟩ := X
    obtain ⟨yl, ya, yb, yf, yg⟩ := Y
    obtain ⟨zl, za, zb, zf, zg⟩ := Z
    obtain ⟨ul, ua, ub, uf, ug⟩ := U
    go_wp2_with fail
    refine (unhide A2' _).mono ?_
    rintro e wg ⟨rfl, hb⟩
    have X := (unhide X').below hb
    have Y := (unhide Y').below hb
    have Z := (unhide Z').below hb
    have U := (unhide U').below hb
    have hw := hw.trans (hb.mono hw.size)
    clear hb X' Y' Z' xl xa xb xf xg yl ya yb yf yg zl za zb zf zg U' ul ua ub uf ug
    have HU : Hid (w.heap.size + 1 + 1 < wf.heap.size) := hide (hZf)
    have HV : Hid (w.heap.size + 1 + 1 < wg.heap.size ∧ wf.heap.size < wg.heap.size) := hide ⟨Z.1, U.1⟩
    have V := Box.new wg t1 t2
    have X := X.old (.cells #[.int .i64 t1, .int .i64 t2] 23)
    have Y := Y.old (.cells #[.int .i64 t1, .int .i64 t2] 23)
    have Z := Z.old (.cells #[.int .i64 t1, .int .i64 t2] 23)
    have U := U.old (.cells #[.int .i64 t1, .int .i64 t2] 23)
    have hw := hw.alloc hw.size (.cells #[.int .i64 t1, .int .i64 t2] 23)
    go_upto_region 10 with fail
    go_cut [59] from 17 (fun v wd => v = .bool (ok2 s3 t3) ∧ Box wd w.heap.size p1 p2 ∧ Box wd (w.heap.size + 1) q1 q2 ∧ Box wd (w.heap.size + 1 + 1) c3 x3 ∧ Box wd wf.heap.size s1 s2 ∧ Box wd wg.heap.size t1 t2 ∧ Below w.heap.size w wd)
    case first =>
      by_cases g3 : s3 = 0
      · by_cases g4 : t3 = 0
        · have e1 : (s3 == 0) = true := by simp [g3]
          have e2 : (t3 == 0) = true := by simp [g4]
          have e3 := hide (ok2_yes g3 g4)
          clear g3 g4
          go_wp2_with fail
          go_meet
          case rel => exact ⟨by rw [unhide e3], X, Y, Z, U, V, hw⟩
        · have e1 : (s3 == 0) = true := by simp [g3]
          have e2 : (t3 == 0) = false := by simp [g4]
          have e3 := hide (ok2_no (s := s3) (fun q => g4 q.2))
          clear g3 g4
          go_wp2_with fail
          go_meet
          case rel => exact ⟨by rw [unhide e3], X, Y, Z, U, V, hw⟩
      · have e1 : (s3 == 0) = false := by simp [g3]
        have e3 := hide (ok2_no (t := t3) (fun q => g3 q.1))
        clear g3
        go_wp2_with fail
        go_meet
        case rel => exact ⟨by rw [unhide e3], X, Y, Z, U, V, hw⟩
    case rest =>
      clear X Y Z U V hw
      obtain ⟨rfl, X, Y, Z, U, V, hw⟩ := hcut
      go_upto_if 59 with fail
      go_cut [13, 14] from 17 (fun _ _ wd => Box wd w.heap.size p1 p2 ∧ Box wd (w.heap.size + 1) q1 q2 ∧ Box wd (w.heap.size + 1 + 1) c3 x3 ∧ Box wd wf.heap.size s1 s2 ∧ Box wd wg.heap.size t1 t2 ∧ Below w.heap.size w wd)
      case first =>
        cases hok : ok2 s3 t3 with
        | true =>
          obtain ⟨g3, g4⟩ := ok2_of hok
          obtain ⟨hd, C1''⟩ := unhide C1' g3 g4
          have C3 := hide C1''
          clear C1'' g3 g4
          have X' := hide X
          have Y' := hide Y
          have Z' := hide Z
          have U' := hide U
          have V' := hide V
          obtain ⟨xl, xa, xb, xf, xg⟩ := X
          obtain ⟨yl, ya, yb, yf, yg⟩ := Y
          obtain ⟨zl, za, zb, zf, zg⟩ := Z
          obtain ⟨ul, ua, ub, uf, ug⟩ := U
          obtain ⟨vl, va, vb, vf, vg⟩ := V
          go_wp2_with fail
          refine (unhide C3 _).mono ?_
          rintro e wh ⟨rfl, hb⟩
          have X := (unhide X').below hb
          have Y := (unhide Y').below hb
          have Z := (unhide Z').below hb
          have U := (unhide U').below hb
          have V := (unhide V').below hb
          have hw := hw.trans (hb.mono hw.size)
          clear hb X' xl xa xb xf xg Y' yl ya yb yf yg Z' zl za zb zf zg U' ul ua ub uf ug V' vl va vb vf vg
          go_wp2_with fail
          go_meet
          case rel => exact ⟨X, Y, Z, U, V, hw⟩
        | false =>
          go_wp2_with fail
          go_meet
          case rel => exact ⟨X, Y, Z, U, V, hw⟩
      case rest =>
        clear X Y Z U V hw
        obtain ⟨X, Y, Z, U, V, hw⟩ := hcut
        have Z0 := hide Z
        obtain ⟨zl, za, zb, zf, zg⟩ := Z
        go_upto_if 70 with fail
        go_cut [] from 17 (fun wd => Box wd w.heap.size p1 p2 ∧ Box wd (w.heap.size + 1) q1 q2 ∧ Box wd (w.heap.size + 1 + 1) k3 x3 ∧ Box wd wf.heap.size s1 s2 ∧ Box wd wg.heap.size t1 t2 ∧ Below w.heap.size w wd)
        case first =>
          rcases unhide K' with ⟨g, rfl⟩ | ⟨g, rfl⟩
          · go_wp2_with fail
            go_meet
            case rel => exact ⟨X.other (by omega) _, Y.other (by omega) _, (unhide Z0).first _, U.other (by have := unhide HU; omega) _, V.other (by have := unhide HV; omega) _, hw.setCell (by simp; omega) _⟩
          · go_wp2_with fail
            go_meet
            case rel => exact ⟨X, Y, unhide Z0, U, V, hw⟩
        case rest =>
          clear X Y Z0 zl za zb zf zg U V hw
          obtain ⟨X, Y, Z, U, V, hw⟩ := hcut
          have X' := hide X
          have Y' := hide Y
          have Z' := hide Z
          have U' := hide U
          have V' := hide V
          obtain ⟨xl, xa, xb, xf, xg⟩ := X
          obtain ⟨yl, ya, yb, yf, yg⟩ := Y
          obtain ⟨zl, za, zb, zf, zg⟩ := Z
          obtain ⟨ul, ua, ub, uf, ug⟩ := U
          obtain ⟨vl, va, vb, vf, vg⟩ := V
          go_wp2_with fail
          refine (unhide M1' _).mono ?_
          rintro e wi ⟨rfl, hb⟩
          have X := (unhide X').below hb
          have Y := (unhide Y').below hb
          have Z := (unhide Z').below hb
          have U := (unhide U').below hb
          have V := (unhide V').below hb
          have hw := hw.trans (hb.mono hw.size)
          clear hb X' xl xa xb xf xg Y' yl ya yb yf yg Z' zl za zb zf zg U' ul ua ub uf ug V' vl va vb vf vg
          have hu := unhide HU
          have hv := unhide HV
          have U1 := hide U
          obtain ⟨ul, ua, ub, uf, ug⟩ := U
          have X := (X.other (m := wf.heap.size) (j := 0) (by omega) (.int .i64 m1)).other (m := wf.heap.size) (j := 1) (by omega) (.int .i64 m2)
          have Y := (Y.other (m := wf.heap.size) (j := 0) (by omega) (.int .i64 m1)).other (m := wf.heap.size) (j := 1) (by omega) (.int .i64 m2)
          have Z := (Z.other (m := wf.heap.size) (j := 0) (by omega) (.int .i64 m1)).other (m := wf.heap.size) (j := 1) (by omega) (.int .i64 m2)
          have V := (V.other (m := wf.heap.size) (j := 0) (by omega) (.int .i64 m1)).other (m := wf.heap.size) (j := 1) (by omega) (.int .i64 m2)
          have U := ((unhide U1).first m1).second m2
          have hw := (hw.setCell (p := ⟨wf.heap.size, 0, none⟩) (by simp; omega) (.int .i64 m1)).setCell (p := ⟨wf.heap.size, 1, none⟩) (by simp; omega) (.int .i64 m2)
          have X' := hide X
          have Y' := hide Y
          have Z' := hide Z
          have U' := hide U
          have V' := hide V
          have hw' := hide hw
          obtain ⟨_, ya, yb, _, _⟩ := Y
          obtain ⟨_, za, zb, _, _⟩ := Z
          clear X U V hw hu hv
          go_wp2_with fail
          refine (unhide M2' _).mono ?_
          rintro e wj ⟨rfl, hb⟩
          have X := (unhide X').below hb
          have Y := (unhide Y').below hb
          have Z := (unhide Z').below hb
          have U := (unhide U').below hb
          have V := (unhide V').below hb
          have hw := (unhide hw').trans (hb.mono (unhide hw').size)
          clear hb X' Y' Z' U' V' hw' ya yb za zb ul ua ub uf ug U1
          have hv := (unhide HV).2
          have hv1 := (unhide HV).1
          have V1 := hide V
          obtain ⟨vl, va, vb, vf, vg⟩ := V
          have U := (U.other (m := wg.heap.size) (j := 0) (by omega) (.int .i64 n1)).other (m := wg.heap.size) (j := 1) (by omega) (.int .i64 n2)
          have V := ((unhide V1).first n1).second n2
          have hw := (hw.setCell (p := ⟨wg.heap.size, 0, none⟩) (by simp; omega) (.int .i64 n1)).setCell (p := ⟨wg.heap.size, 1, none⟩) (by simp; omega) (.int .i64 n2)
          have hw' := hide hw
          obtain ⟨_, ua, ub, _, _⟩ := U
          obtain ⟨_, vc, vd, _, _⟩ := V
          clear X Y Z hw hv hv1 V1
          by_cases g3 : m3 = 0
          · by_cases g4 : n3 = 0
            · obtain ⟨hd, C2''⟩ := unhide C2' g3 g4
              have C3 := hide C2''
              have e1 : (m3 == 0) = true := by simp [g3]
              have e2 : (n3 == 0) = true := by simp [g4]
              clear C2'' g3 g4
              go_wp2_with fail
              refine (unhide C3 _).mono ?_
              rintro e wk ⟨rfl, hb⟩
              go_wp2
              go_ret
              exact ⟨ret_bool (by first | rfl | (simp; done) | (simp; omega)), (unhide hw').trans (hb.mono (unhide hw').size)⟩
            · have e1 : (m3 == 0) = true := by simp [g3]
              have e2 : (n3 == 0) = false := by simp [g4]
              clear g3 g4
              go_wp2
              go_ret
              exact ⟨rfl, unhide hw'⟩
          · have e1 : (m3 == 0) = false := by simp [g3]
            clear g3
            go_wp2
            go_ret
            exact ⟨rfl, unhide hw'⟩
end Go.Proofs.Ythgiepppcpjpaaa
