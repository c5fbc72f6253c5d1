/- The walk over LogicEqual, whatever the two values. -/
import Derived.Test.YthhdgimphnbjbaaDoorZ2
namespace Go.Proofs.YthhdgimphnbjbaaDoor
open Go.RowKit

set_option maxRecDepth 20000 in
set_option maxHeartbeats 2000000 in
theorem law_w1 (k1 : Int) (y1 : Bool) (c1 x1 : Int) (t1 m1 : Value) (k2 : Int) (y2 : Bool) (c2 x2 : Int) (t2 m2 : Value) (w : World) (r : Int) (hr : (r != 0) = true)
    (W1 : ∀ wx, Below w.heap.size w wx → Calls Tryd.prog 5 #[.agg (raw k1 y1 c1 x1 t1 m1)] wx fun e w' => e = .returned (.int .i64 r) ∧ Below wx.heap.size wx w') :
    Calls Tryd.prog 3 #[.agg (raw k1 y1 c1 x1 t1 m1), .agg (raw k2 y2 c2 x2 t2 m2)] w fun e w' => e = .returned (.bool true) ∧ Below w.heap.size w w' := by
  replace W1 := hide W1
  go_enter Tryd.func3, Tryd.ntmps3
  go_wp2_with fail
  refine (alive_any _).mono ?_
  rintro e w0 ⟨rfl, hb⟩
  obtain ⟨A, B, hw⟩ := box2 hb
  clear hb
  obtain ⟨a0, a1, a2, a3, a4, a5⟩ := A.tell
  go_wp2_with fail
  refine (unhide W1 _ hw).mono ?_
  rintro e v1 ⟨rfl, hb⟩
  replace hw := hw.trans (hb.mono hw.size)
  clear hb a0 a1 a2 a3 a4 a5 A B
  go_wp2
  go_ret
  exact ⟨rfl, hw⟩

set_option maxRecDepth 20000 in
set_option maxHeartbeats 2000000 in
theorem law_w2 (k1 : Int) (y1 : Bool) (c1 x1 : Int) (t1 m1 : Value) (k2 : Int) (y2 : Bool) (c2 x2 : Int) (t2 m2 : Value) (w : World) (r : Int) (hr : (r != 0) = true)
    (W1 : ∀ wx, Below w.heap.size w wx → Calls Tryd.prog 5 #[.agg (raw k1 y1 c1 x1 t1 m1)] wx fun e w' => e = .returned (.int .i64 0) ∧ Below wx.heap.size wx w')
    (W2 : ∀ wx, Below w.heap.size w wx → Calls Tryd.prog 5 #[.agg (raw k2 y2 c2 x2 t2 m2)] wx fun e w' => e = .returned (.int .i64 r) ∧ Below wx.heap.size wx w') :
    Calls Tryd.prog 3 #[.agg (raw k1 y1 c1 x1 t1 m1), .agg (raw k2 y2 c2 x2 t2 m2)] w fun e w' => e = .returned (.bool true) ∧ Below w.heap.size w w' := by
  replace W1 := hide W1
  replace W2 := hide W2
  go_enter Tryd.func3, Tryd.ntmps3
  go_wp2_with fail
  refine (alive_any _).mono ?_
  rintro e w0 ⟨rfl, hb⟩
  obtain ⟨A, B, hw⟩ := box2 hb
  clear hb
  obtain ⟨a0, a1, a2, a3, a4, a5⟩ := A.tell
  go_wp2_with fail
  refine (unhide W1 _ hw).mono ?_
  rintro e v1 ⟨rfl, hb⟩
  replace B := B.keep hb B.low
  replace hw := hw.trans (hb.mono hw.size)
  clear hb a0 a1 a2 a3 a4 a5 A
  obtain ⟨a0, a1, a2, a3, a4, a5⟩ := B.tell
  go_wp2_with fail
  refine (unhide W2 _ hw).mono ?_
  rintro e v2 ⟨rfl, hb⟩
  replace hw := hw.trans (hb.mono hw.size)
  clear hb a0 a1 a2 a3 a4 a5 B
  go_wp2
  go_ret
  exact ⟨rfl, hw⟩

theorem ex_ret {f : Nat} {args : Array Value} {w : World} {v : Value} {R : World → Prop} (h : Calls Tryd.prog f args w fun e w' => e = .returned v ∧ R w') : Calls Tryd.prog f args w fun e w' => ∃ u, e = .returned u ∧ u = v ∧ R w' :=
  h.mono fun _ _ q => ⟨v, q.1, rfl, q.2⟩

theorem equal_walk (T1 T2 : Tree) (u1 u2 : Array Value) (w : World) (M1 : Mem w.heap.size w T1 u1) (M2 : Mem w.heap.size w T2 u2) (hT : TabsIn w.heap.size w) :
    Calls Tryd.prog 3 #[.agg u1, .agg u2] w fun e w' => e = .returned (.bool true) ∧ Below w.heap.size w w' := by
  have N1 : ∀ wx, Below w.heap.size w wx → Mem wx.heap.size wx T1 u1 := fun wx hb => Mem.mono hb.size (Mem.below hb M1)
  have N2 : ∀ wx, Below w.heap.size w wx → Mem wx.heap.size wx T2 u2 := fun wx hb => Mem.mono hb.size (Mem.below hb M2)
  have W1 := fun wx (hb : Below w.heap.size w wx) => logicWrong_any T1 u1 w.heap.size wx hb.size (Mem.below hb M1) (hT.below hb)
  have W2 := fun wx (hb : Below w.heap.size w wx) => logicWrong_any T2 u2 w.heap.size wx hb.size (Mem.below hb M2) (hT.below hb)
  have E12 := fun wx (hb : Below w.heap.size w wx) => ex_ret (equal_any T1 T2 wx u1 u2 (N1 wx hb) (N2 wx hb))
  have E21 := fun wx (hb : Below w.heap.size w wx) => ex_ret (equal_any T2 T1 wx u2 u1 (N2 wx hb) (N1 wx hb))
  have EB := fun wx x (hb : Below w.heap.size w wx) (hx : Mem wx.heap.size wx (bareT T1) x) => ex_ret (equal_any T1 (bareT T1) wx u1 x (N1 wx hb) hx)
  have SM := fun wx x y (_ : Below w.heap.size w wx) (hx : Mem wx.heap.size wx (bareT T1) x) (hy : Mem wx.heap.size wx (bareT T2) y) => ex_ret (same_all (bareT T1) (bareT T2) wx.heap.size wx x y hx hy (Nat.le_refl _))
  have C1 := fun (r1 : (wrongF T1 0 1).1 = 0) wx (hb : Below w.heap.size w wx) => (bare_all T1 wx u1 (N1 wx hb) ⟨0, 1, r1⟩).mono fun e w' (q : ∃ v', e = .returned (.agg v') ∧ _ ∧ _) => (show ∃ v, e = .returned v ∧ MT (bareT T1) v w' ∧ Below wx.heap.size wx w' from
    let ⟨v', h1, h2, h3⟩ := q; ⟨_, h1, ⟨v', rfl, h2.mem fun _ z => z.2⟩, h3⟩)
  have C2 := fun (r2 : (wrongF T2 0 1).1 = 0) wx (hb : Below w.heap.size w wx) => (bare_all T2 wx u2 (N2 wx hb) ⟨0, 1, r2⟩).mono fun e w' (q : ∃ v', e = .returned (.agg v') ∧ _ ∧ _) => (show ∃ v, e = .returned v ∧ MT (bareT T2) v w' ∧ Below wx.heap.size wx w' from
    let ⟨v', h1, h2, h3⟩ := q; ⟨_, h1, ⟨v', rfl, h2.mem fun _ z => z.2⟩, h3⟩)
  have sym : eqT T2 T1 = eqT T1 T2 := by unfold eqT; rw [eq_sym]
  rw [sym] at E21
  have hle : eqT T1 T2 ≤ 2 := eq_le T1 T2 0 1
  by_cases r1 : (wrongF T1 0 1).1 = 0
  · by_cases r2 : (wrongF T2 0 1).1 = 0
    · have hB : eqT T1 (bareT T1) = 2 := eq_bare r1
      have hF : ((kd (eqT T1 T2) == 2) && yd (eqT T1 T2)) = sameB (bareT T1) (bareT T2) := by
        rw [← eq_same r1]
        show _ = decide (eqT T1 T2 = 2)
        rcases (by omega : eqT T1 T2 = 0 ∨ eqT T1 T2 = 1 ∨ eqT T1 T2 = 2) with e | e | e <;> rw [e] <;> rfl
      rw [hB] at EB
      rw [r1] at W1
      rw [r2] at W2
      replace C1 := C1 r1
      replace C2 := C2 r2
      clear N1 N2
      generalize bareT T1 = X1 at *
      generalize bareT T2 = X2 at *
      generalize eqT T1 T2 = g at *
      obtain ⟨k1, y1, c1, x1, t1, ks1⟩ := T1
      obtain ⟨k2, y2, c2, x2, t2, ks2⟩ := T2
      rw [Mem] at M1 M2
      obtain ⟨_, _, a1, cap1, rfl, _⟩ := M1
      obtain ⟨_, _, a2, cap2, rfl, _⟩ := M2
      exact law_ok k1 y1 c1 x1 _ _ k2 y2 c2 x2 _ _ X1 X2 w g _ W1 W2 E12 E21 EB C1 C2 SM hF
    · rw [r1] at W1
      clear N1 N2 E12 E21 EB SM C1 C2 sym hle
      generalize (wrongF T2 0 1).1 = r at *
      obtain ⟨k1, y1, c1, x1, t1, ks1⟩ := T1
      obtain ⟨k2, y2, c2, x2, t2, ks2⟩ := T2
      rw [Mem] at M1 M2
      obtain ⟨_, _, a1, cap1, rfl, _⟩ := M1
      obtain ⟨_, _, a2, cap2, rfl, _⟩ := M2
      exact law_w2 k1 y1 c1 x1 _ _ k2 y2 c2 x2 _ _ w r (by simpa using r2) W1 W2
  · clear N1 N2 E12 E21 EB SM C1 C2 sym hle W2
    generalize (wrongF T1 0 1).1 = r at *
    obtain ⟨k1, y1, c1, x1, t1, ks1⟩ := T1
    obtain ⟨k2, y2, c2, x2, t2, ks2⟩ := T2
    rw [Mem] at M1 M2
    obtain ⟨_, _, a1, cap1, rfl, _⟩ := M1
    obtain ⟨_, _, a2, cap2, rfl, _⟩ := M2
    exact law_w1 k1 y1 c1 x1 _ _ k2 y2 c2 x2 _ _ w r (by simpa using r1) W1
end Go.Proofs.YthhdgimphnbjbaaDoor
