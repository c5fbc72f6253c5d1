/- The walk over LogicOrder, where one of the three is wrong or they are not of one kind that is ordered. -/
import Derived.Test.YteniijhffinhnaaDoorL1
namespace Go.Proofs.YteniijhffinhnaaDoor
open Go.RowKit

set_option maxRecDepth 20000 in
set_option maxHeartbeats 2000000 in
theorem order_w1 (k1 : Int) (y1 : Bool) (c1 x1 : Int) (t1 m1 : Value) (k2 : Int) (y2 : Bool) (c2 x2 : Int) (t2 m2 : Value) (k3 : Int) (y3 : Bool) (c3 x3 : Int) (t3 m3 : Value) (w : World) (r : Int) (hr : (r != 0) = true) (W1 : Told1 5 w (raw k1 y1 c1 x1 t1 m1) (.int .i64 r))  :
    Calls Tryd.prog 3 #[.agg (raw k1 y1 c1 x1 t1 m1), .agg (raw k2 y2 c2 x2 t2 m2), .agg (raw k3 y3 c3 x3 t3 m3)] w fun e w' => e = .returned (.bool true) ∧ Below w.heap.size w w' := by
  replace W1 := hide W1
  go_enter Tryd.func3, Tryd.ntmps3
  go_wp2_with fail
  refine (alive_any _).mono ?_
  rintro e w0 ⟨rfl, hb⟩
  obtain ⟨A, B, C, hw⟩ := box3 hb
  clear hb
  obtain ⟨a0, a1, a2, a3, a4, a5⟩ := A.tell
  go_wp2_with fail
  refine (unhide W1 _ hw).mono ?_
  rintro e v1 ⟨rfl, hb⟩
  replace A := A.keep hb A.low
  replace B := B.keep hb B.low
  replace C := C.keep hb C.low
  replace hw := hw.trans (hb.mono hw.size)
  clear hb a0 a1 a2 a3 a4 a5
  obtain ⟨a0, a1, a2, a3, a4, a5⟩ := A.tell
  obtain ⟨b0, b1, b2, b3, b4, b5⟩ := B.tell
  obtain ⟨e0, e1, e2, e3, e4, e5⟩ := C.tell
  go_wp2
  go_ret
  exact ⟨rfl, hw⟩

set_option maxRecDepth 20000 in
set_option maxHeartbeats 2000000 in
theorem order_w2 (k1 : Int) (y1 : Bool) (c1 x1 : Int) (t1 m1 : Value) (k2 : Int) (y2 : Bool) (c2 x2 : Int) (t2 m2 : Value) (k3 : Int) (y3 : Bool) (c3 x3 : Int) (t3 m3 : Value) (w : World) (r : Int) (hr : (r != 0) = true) (W1 : Told1 5 w (raw k1 y1 c1 x1 t1 m1) (.int .i64 0)) (W2 : Told1 5 w (raw k2 y2 c2 x2 t2 m2) (.int .i64 r))  :
    Calls Tryd.prog 3 #[.agg (raw k1 y1 c1 x1 t1 m1), .agg (raw k2 y2 c2 x2 t2 m2), .agg (raw k3 y3 c3 x3 t3 m3)] w fun e w' => e = .returned (.bool true) ∧ Below w.heap.size w w' := by
  replace W1 := hide W1
  replace W2 := hide W2
  go_enter Tryd.func3, Tryd.ntmps3
  go_wp2_with fail
  refine (alive_any _).mono ?_
  rintro e w0 ⟨rfl, hb⟩
  obtain ⟨A, B, C, hw⟩ := box3 hb
  clear hb
  obtain ⟨a0, a1, a2, a3, a4, a5⟩ := A.tell
  go_wp2_with fail
  refine (unhide W1 _ hw).mono ?_
  rintro e v1 ⟨rfl, hb⟩
  replace A := A.keep hb A.low
  replace B := B.keep hb B.low
  replace C := C.keep hb C.low
  replace hw := hw.trans (hb.mono hw.size)
  clear hb a0 a1 a2 a3 a4 a5
  obtain ⟨a0, a1, a2, a3, a4, a5⟩ := B.tell
  go_wp2_with fail
  refine (unhide W2 _ hw).mono ?_
  rintro e v2 ⟨rfl, hb⟩
  replace A := A.keep hb A.low
  replace B := B.keep hb B.low
  replace C := C.keep hb C.low
  replace hw := hw.trans (hb.mono hw.size)
  clear hb a0 a1 a2 a3 a4 a5
  obtain ⟨a0, a1, a2, a3, a4, a5⟩ := A.tell
  obtain ⟨b0, b1, b2, b3, b4, b5⟩ := B.tell
  obtain ⟨e0, e1, e2, e3, e4, e5⟩ := C.tell
  go_wp2
  go_ret
  exact ⟨rfl, hw⟩

set_option maxRecDepth 20000 in
set_option maxHeartbeats 2000000 in
theorem order_w3 (k1 : Int) (y1 : Bool) (c1 x1 : Int) (t1 m1 : Value) (k2 : Int) (y2 : Bool) (c2 x2 : Int) (t2 m2 : Value) (k3 : Int) (y3 : Bool) (c3 x3 : Int) (t3 m3 : Value) (w : World) (r : Int) (hr : (r != 0) = true) (W1 : Told1 5 w (raw k1 y1 c1 x1 t1 m1) (.int .i64 0)) (W2 : Told1 5 w (raw k2 y2 c2 x2 t2 m2) (.int .i64 0)) (W3 : Told1 5 w (raw k3 y3 c3 x3 t3 m3) (.int .i64 r))  :
    Calls Tryd.prog 3 #[.agg (raw k1 y1 c1 x1 t1 m1), .agg (raw k2 y2 c2 x2 t2 m2), .agg (raw k3 y3 c3 x3 t3 m3)] w fun e w' => e = .returned (.bool true) ∧ Below w.heap.size w w' := by
  replace W1 := hide W1
  replace W2 := hide W2
  replace W3 := hide W3
  go_enter Tryd.func3, Tryd.ntmps3
  go_wp2_with fail
  refine (alive_any _).mono ?_
  rintro e w0 ⟨rfl, hb⟩
  obtain ⟨A, B, C, hw⟩ := box3 hb
  clear hb
  obtain ⟨a0, a1, a2, a3, a4, a5⟩ := A.tell
  go_wp2_with fail
  refine (unhide W1 _ hw).mono ?_
  rintro e v1 ⟨rfl, hb⟩
  replace A := A.keep hb A.low
  replace B := B.keep hb B.low
  replace C := C.keep hb C.low
  replace hw := hw.trans (hb.mono hw.size)
  clear hb a0 a1 a2 a3 a4 a5
  obtain ⟨a0, a1, a2, a3, a4, a5⟩ := B.tell
  go_wp2_with fail
  refine (unhide W2 _ hw).mono ?_
  rintro e v2 ⟨rfl, hb⟩
  replace A := A.keep hb A.low
  replace B := B.keep hb B.low
  replace C := C.keep hb C.low
  replace hw := hw.trans (hb.mono hw.size)
  clear hb a0 a1 a2 a3 a4 a5
  obtain ⟨a0, a1, a2, a3, a4, a5⟩ := C.tell
  go_wp2_with fail
  refine (unhide W3 _ hw).mono ?_
  rintro e v3 ⟨rfl, hb⟩
  replace A := A.keep hb A.low
  replace B := B.keep hb B.low
  replace C := C.keep hb C.low
  replace hw := hw.trans (hb.mono hw.size)
  clear hb a0 a1 a2 a3 a4 a5
  obtain ⟨a0, a1, a2, a3, a4, a5⟩ := A.tell
  obtain ⟨b0, b1, b2, b3, b4, b5⟩ := B.tell
  obtain ⟨e0, e1, e2, e3, e4, e5⟩ := C.tell
  go_wp2
  go_ret
  exact ⟨rfl, hw⟩

set_option maxRecDepth 20000 in
set_option maxHeartbeats 2000000 in
theorem order_k12 (k1 : Int) (y1 : Bool) (c1 x1 : Int) (t1 m1 : Value) (k2 : Int) (y2 : Bool) (c2 x2 : Int) (t2 m2 : Value) (k3 : Int) (y3 : Bool) (c3 x3 : Int) (t3 m3 : Value) (w : World) (W1 : Told1 5 w (raw k1 y1 c1 x1 t1 m1) (.int .i64 0)) (W2 : Told1 5 w (raw k2 y2 c2 x2 t2 m2) (.int .i64 0)) (W3 : Told1 5 w (raw k3 y3 c3 x3 t3 m3) (.int .i64 0)) (hk : ¬ k1 = k2) :
    Calls Tryd.prog 3 #[.agg (raw k1 y1 c1 x1 t1 m1), .agg (raw k2 y2 c2 x2 t2 m2), .agg (raw k3 y3 c3 x3 t3 m3)] w fun e w' => e = .returned (.bool true) ∧ Below w.heap.size w w' := by
  replace W1 := hide W1
  replace W2 := hide W2
  replace W3 := hide W3
  go_enter Tryd.func3, Tryd.ntmps3
  go_wp2_with fail
  refine (alive_any _).mono ?_
  rintro e w0 ⟨rfl, hb⟩
  obtain ⟨A, B, C, hw⟩ := box3 hb
  clear hb
  obtain ⟨a0, a1, a2, a3, a4, a5⟩ := A.tell
  go_wp2_with fail
  refine (unhide W1 _ hw).mono ?_
  rintro e v1 ⟨rfl, hb⟩
  replace A := A.keep hb A.low
  replace B := B.keep hb B.low
  replace C := C.keep hb C.low
  replace hw := hw.trans (hb.mono hw.size)
  clear hb a0 a1 a2 a3 a4 a5
  obtain ⟨a0, a1, a2, a3, a4, a5⟩ := B.tell
  go_wp2_with fail
  refine (unhide W2 _ hw).mono ?_
  rintro e v2 ⟨rfl, hb⟩
  replace A := A.keep hb A.low
  replace B := B.keep hb B.low
  replace C := C.keep hb C.low
  replace hw := hw.trans (hb.mono hw.size)
  clear hb a0 a1 a2 a3 a4 a5
  obtain ⟨a0, a1, a2, a3, a4, a5⟩ := C.tell
  go_wp2_with fail
  refine (unhide W3 _ hw).mono ?_
  rintro e v3 ⟨rfl, hb⟩
  replace A := A.keep hb A.low
  replace B := B.keep hb B.low
  replace C := C.keep hb C.low
  replace hw := hw.trans (hb.mono hw.size)
  clear hb a0 a1 a2 a3 a4 a5
  obtain ⟨a0, a1, a2, a3, a4, a5⟩ := A.tell
  obtain ⟨b0, b1, b2, b3, b4, b5⟩ := B.tell
  obtain ⟨e0, e1, e2, e3, e4, e5⟩ := C.tell
  go_wp2
  go_ret
  exact ⟨rfl, hw⟩

set_option maxRecDepth 20000 in
set_option maxHeartbeats 2000000 in
theorem order_k23 (k1 : Int) (y1 : Bool) (c1 x1 : Int) (t1 m1 : Value) (k2 : Int) (y2 : Bool) (c2 x2 : Int) (t2 m2 : Value) (k3 : Int) (y3 : Bool) (c3 x3 : Int) (t3 m3 : Value) (w : World) (W1 : Told1 5 w (raw k1 y1 c1 x1 t1 m1) (.int .i64 0)) (W2 : Told1 5 w (raw k2 y2 c2 x2 t2 m2) (.int .i64 0)) (W3 : Told1 5 w (raw k3 y3 c3 x3 t3 m3) (.int .i64 0)) (hk : k1 = k2) (hk2 : ¬ k2 = k3) :
    Calls Tryd.prog 3 #[.agg (raw k1 y1 c1 x1 t1 m1), .agg (raw k2 y2 c2 x2 t2 m2), .agg (raw k3 y3 c3 x3 t3 m3)] w fun e w' => e = .returned (.bool true) ∧ Below w.heap.size w w' := by
  replace W1 := hide W1
  replace W2 := hide W2
  replace W3 := hide W3
  subst hk
  go_enter Tryd.func3, Tryd.ntmps3
  go_wp2_with fail
  refine (alive_any _).mono ?_
  rintro e w0 ⟨rfl, hb⟩
  obtain ⟨A, B, C, hw⟩ := box3 hb
  clear hb
  obtain ⟨a0, a1, a2, a3, a4, a5⟩ := A.tell
  go_wp2_with fail
  refine (unhide W1 _ hw).mono ?_
  rintro e v1 ⟨rfl, hb⟩
  replace A := A.keep hb A.low
  replace B := B.keep hb B.low
  replace C := C.keep hb C.low
  replace hw := hw.trans (hb.mono hw.size)
  clear hb a0 a1 a2 a3 a4 a5
  obtain ⟨a0, a1, a2, a3, a4, a5⟩ := B.tell
  go_wp2_with fail
  refine (unhide W2 _ hw).mono ?_
  rintro e v2 ⟨rfl, hb⟩
  replace A := A.keep hb A.low
  replace B := B.keep hb B.low
  replace C := C.keep hb C.low
  replace hw := hw.trans (hb.mono hw.size)
  clear hb a0 a1 a2 a3 a4 a5
  obtain ⟨a0, a1, a2, a3, a4, a5⟩ := C.tell
  go_wp2_with fail
  refine (unhide W3 _ hw).mono ?_
  rintro e v3 ⟨rfl, hb⟩
  replace A := A.keep hb A.low
  replace B := B.keep hb B.low
  replace C := C.keep hb C.low
  replace hw := hw.trans (hb.mono hw.size)
  clear hb a0 a1 a2 a3 a4 a5
  obtain ⟨a0, a1, a2, a3, a4, a5⟩ := A.tell
  obtain ⟨b0, b1, b2, b3, b4, b5⟩ := B.tell
  obtain ⟨e0, e1, e2, e3, e4, e5⟩ := C.tell
  go_wp2
  go_ret
  exact ⟨rfl, hw⟩

set_option maxRecDepth 20000 in
set_option maxHeartbeats 2000000 in
theorem order_k (k1 : Int) (y1 : Bool) (c1 x1 : Int) (t1 m1 : Value) (k2 : Int) (y2 : Bool) (c2 x2 : Int) (t2 m2 : Value) (k3 : Int) (y3 : Bool) (c3 x3 : Int) (t3 m3 : Value) (w : World) (W1 : Told1 5 w (raw k1 y1 c1 x1 t1 m1) (.int .i64 0)) (W2 : Told1 5 w (raw k2 y2 c2 x2 t2 m2) (.int .i64 0)) (W3 : Told1 5 w (raw k3 y3 c3 x3 t3 m3) (.int .i64 0)) (hk : k1 = k2) (hk2 : k2 = k3) (h3 : ¬ k1 = 3) (h4 : ¬ k1 = 4) :
    Calls Tryd.prog 3 #[.agg (raw k1 y1 c1 x1 t1 m1), .agg (raw k2 y2 c2 x2 t2 m2), .agg (raw k3 y3 c3 x3 t3 m3)] w fun e w' => e = .returned (.bool true) ∧ Below w.heap.size w w' := by
  replace W1 := hide W1
  replace W2 := hide W2
  replace W3 := hide W3
  subst hk hk2
  have h3b : (k1 != 3) = true := by simp [h3]
  have h4b : (k1 != 4) = true := by simp [h4]
  clear h3 h4
  go_enter Tryd.func3, Tryd.ntmps3
  go_wp2_with fail
  refine (alive_any _).mono ?_
  rintro e w0 ⟨rfl, hb⟩
  obtain ⟨A, B, C, hw⟩ := box3 hb
  clear hb
  obtain ⟨a0, a1, a2, a3, a4, a5⟩ := A.tell
  go_wp2_with fail
  refine (unhide W1 _ hw).mono ?_
  rintro e v1 ⟨rfl, hb⟩
  replace A := A.keep hb A.low
  replace B := B.keep hb B.low
  replace C := C.keep hb C.low
  replace hw := hw.trans (hb.mono hw.size)
  clear hb a0 a1 a2 a3 a4 a5
  obtain ⟨a0, a1, a2, a3, a4, a5⟩ := B.tell
  go_wp2_with fail
  refine (unhide W2 _ hw).mono ?_
  rintro e v2 ⟨rfl, hb⟩
  replace A := A.keep hb A.low
  replace B := B.keep hb B.low
  replace C := C.keep hb C.low
  replace hw := hw.trans (hb.mono hw.size)
  clear hb a0 a1 a2 a3 a4 a5
  obtain ⟨a0, a1, a2, a3, a4, a5⟩ := C.tell
  go_wp2_with fail
  refine (unhide W3 _ hw).mono ?_
  rintro e v3 ⟨rfl, hb⟩
  replace A := A.keep hb A.low
  replace B := B.keep hb B.low
  replace C := C.keep hb C.low
  replace hw := hw.trans (hb.mono hw.size)
  clear hb a0 a1 a2 a3 a4 a5
  obtain ⟨a0, a1, a2, a3, a4, a5⟩ := A.tell
  obtain ⟨b0, b1, b2, b3, b4, b5⟩ := B.tell
  obtain ⟨e0, e1, e2, e3, e4, e5⟩ := C.tell
  go_wp2
  go_ret
  exact ⟨rfl, hw⟩

end Go.Proofs.YteniijhffinhnaaDoor
