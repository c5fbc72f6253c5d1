/- The walk over LogicOrder, whatever the three values. -/
import Derived.Test.YteniijhffinhnaaDoorL2
import Derived.Test.YteniijhffinhnaaDoorO1
namespace Go.Proofs.YteniijhffinhnaaDoor
open Go.RowKit

theorem wrong_told (T : Tree) (u : Array Value) (w : World) (hM : Mem w.heap.size w T u) (hT : TabsIn w.heap.size w) : Told1 5 w u (.int .i64 (wrongF T 0 1).1) :=
  fun wx hb => logicWrong_any T u w.heap.size wx hb.size (Mem.below hb hM) (hT.below hb)

theorem order_walk (T1 T2 T3 : Tree) (u1 u2 u3 : Array Value) (w : World) (M1 : Mem w.heap.size w T1 u1) (M2 : Mem w.heap.size w T2 u2) (M3 : Mem w.heap.size w T3 u3) (hT : TabsIn w.heap.size w) :
    Calls Tryd.prog 3 #[.agg u1, .agg u2, .agg u3] w fun e w' => e = .returned (.bool true) ∧ Below w.heap.size w w' := by
  have W1 := wrong_told T1 u1 w M1 hT
  have W2 := wrong_told T2 u2 w M2 hT
  have W3 := wrong_told T3 u3 w M3 hT
  obtain ⟨k1, y1, c1, x1, t1, ks1⟩ := T1
  obtain ⟨k2, y2, c2, x2, t2, ks2⟩ := T2
  obtain ⟨k3, y3, c3, x3, t3, ks3⟩ := T3
  rw [Mem] at M1 M2 M3
  obtain ⟨_, _, a1, cap1, rfl, _⟩ := M1
  obtain ⟨_, _, a2, cap2, rfl, _⟩ := M2
  obtain ⟨_, _, a3, cap3, rfl, _⟩ := M3
  by_cases r1 : (wrongF (.mk k1 y1 c1 x1 t1 ks1) 0 1).1 = 0
  case neg => exact order_w1 k1 y1 c1 x1 _ _ k2 y2 c2 x2 _ _ k3 y3 c3 x3 _ _ w _ (by simpa using r1) W1
  rw [r1] at W1
  by_cases r2 : (wrongF (.mk k2 y2 c2 x2 t2 ks2) 0 1).1 = 0
  case neg => exact order_w2 k1 y1 c1 x1 _ _ k2 y2 c2 x2 _ _ k3 y3 c3 x3 _ _ w _ (by simpa using r2) W1 W2
  rw [r2] at W2
  by_cases r3 : (wrongF (.mk k3 y3 c3 x3 t3 ks3) 0 1).1 = 0
  case neg => exact order_w3 k1 y1 c1 x1 _ _ k2 y2 c2 x2 _ _ k3 y3 c3 x3 _ _ w _ (by simpa using r3) W1 W2 W3
  rw [r3] at W3
  by_cases e12 : k1 = k2
  case neg => exact order_k12 k1 y1 c1 x1 _ _ k2 y2 c2 x2 _ _ k3 y3 c3 x3 _ _ w W1 W2 W3 e12
  by_cases e23 : k2 = k3
  case neg => exact order_k23 k1 y1 c1 x1 _ _ k2 y2 c2 x2 _ _ k3 y3 c3 x3 _ _ w W1 W2 W3 e12 e23
  by_cases h3 : k1 = 3
  · subst e12 e23 h3
    rw [wf_num (by omega)] at r1 r2 r3
    exact order_ok 3 (.inl rfl) y1 c1 x1 _ _ y2 c2 x2 _ _ y3 c3 x3 _ _ w _ _ _ _ _ W1 W2 W3
      (fun wx _ => less_num y1 y2 c1 x1 c2 x2 _ _ _ _ wx r1 r2) (fun wx _ => less_num y2 y1 c2 x2 c1 x1 _ _ _ _ wx r2 r1) (fun wx _ => equal_num y1 y2 c1 x1 c2 x2 _ _ _ _ wx)
      (fun wx _ => less_num y2 y3 c2 x2 c3 x3 _ _ _ _ wx r2 r3) (fun wx _ => less_num y1 y3 c1 x1 c3 x3 _ _ _ _ wx r1 r3)
      (Dm.num_one r1 r2 _ _ _ rfl rfl rfl) (fun p q => Dm.num_tr p q)
  · by_cases h4 : k1 = 4
    · subst e12 e23 h4
      refine order_ok 4 (.inr rfl) y1 c1 x1 _ _ y2 c2 x2 _ _ y3 c3 x3 _ _ w _ _ _ _ _ W1 W2 W3
        (fun wx _ => less_text y1 y2 c1 x1 c2 x2 t1 t2 _ _ wx) (fun wx _ => less_text y2 y1 c2 x2 c1 x1 t2 t1 _ _ wx) (fun wx _ => equal_text y1 y2 c1 x1 c2 x2 t1 t2 _ _ wx)
        (fun wx _ => less_text y2 y3 c2 x2 c3 x3 t2 t3 _ _ wx) (fun wx _ => less_text y1 y3 c1 x1 c3 x3 t1 t3 _ _ wx) ?_ (fun p q => Dm.less_trans _ _ _ p q)
      rcases Dm.less_tri t1.toList t2.toList with ⟨p, q, r⟩ | ⟨p, q, r⟩ | ⟨p, q, r⟩
      · exact .inl ⟨p, q, decide_eq_false r⟩
      · exact .inr (.inl ⟨p, q, decide_eq_false r⟩)
      · exact .inr (.inr ⟨p, q, decide_eq_true r⟩)
    · exact order_k k1 y1 c1 x1 _ _ k2 y2 c2 x2 _ _ k3 y3 c3 x3 _ _ w W1 W2 W3 e12 e23 h3 h4
end Go.Proofs.YteniijhffinhnaaDoor
