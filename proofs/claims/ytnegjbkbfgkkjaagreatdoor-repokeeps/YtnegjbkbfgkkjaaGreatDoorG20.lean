/- Walks: typed, of each kind and of every expression. (Written by gen_yu.py.) -/
import Derived.Test.YtnegjbkbfgkkjaaGreatDoorG19
namespace Go.Proofs.YtnegjbkbfgkkjaaGreatDoor
open Go.RowKit Go.MapKept

set_option maxRecDepth 100000 in
set_option maxHeartbeats 8000000 in
theorem typed_lit {B lo bt bn bf : Nat} {E : Ev} {M : Nat} {w : World} (S : TyS B lo bt bn bf E M w) (k vk : Int) (vy : Bool) (vc vx : Int) (vt : ByteArray) (va : Option Addr) (vn vp : Nat) (s : ByteArray) (a : Option Addr) (n cap : Nat) (hk : k = 1) :
    Calls Tryz.prog 84 #[.pointer (some ⟨bt, 0, none⟩), .agg #[.int .i64 k, .int .i64 vk, .bool vy, .int .i64 vc, .int .i64 vx, .string vt, .slice va vn vp, .string s, .slice a n cap]] w fun e w' => e = .returned (.tuple #[sh (litTy vk), .int .i64 0]) ∧ MapF bn (envV E) w' ∧ But bn w w' := by
  have hlo := S.lowB
  have hbn := S.names.low
  obtain ⟨w0, hw0⟩ : ∃ w0, w0 = (w.alloc (.cells #[.int .i64 k, .int .i64 vk, .bool vy, .int .i64 vc, .int .i64 vx, .string vt, .slice va vn vp, .string s, .slice a n cap] 86)).alloc (.cells #[.int .i64 0, .int .i64 0] 158) := ⟨_, rfl⟩
  have B0 : Below w.heap.size w w0 := by rw [hw0]; exact below2 w _ _
  have X9 : V9 w0 w.heap.size (.int .i64 k) (.int .i64 vk) (.bool vy) (.int .i64 vc) (.int .i64 vx) (.string vt) (.slice va vn vp) (.string s) (.slice a n cap) := by
    rw [hw0]; exact (V9.new w 86 _ _ _ _ _ _ _ _ _).keep ((Below.refl _ _).alloc (Nat.le_refl _) _) (by simp)
  have Y0 : Bx2 w0 (w.heap.size + 1) (.int .i64 0) (.int .i64 0) := by
    rw [hw0]
    have := Bx2.new (w.alloc (.cells #[.int .i64 k, .int .i64 vk, .bool vy, .int .i64 vc, .int .i64 vx, .string vt, .slice va vn vp, .string s, .slice a n cap] 86)) 158 (.int .i64 0) (.int .i64 0)
    simpa using this
  have S0 := S.keep B0
  have z0 : w0.heap.size = w.heap.size + 1 + 1 := by rw [hw0]; simp
  have l9 : w.heap.size < w0.heap.size := by omega
  have l8 : w.heap.size + 1 < w0.heap.size := by omega
  clear z0
  have fin : ∀ (wx : World) (n q : Int), Kn bn (envV E) w0 wx → MapF bn (envV E) (put2 wx (w.heap.size + 1) (.int .i64 n) (.int .i64 q)) ∧ But bn w (put2 wx (w.heap.size + 1) (.int .i64 n) (.int .i64 q)) ∧ Bx2 wx (w.heap.size + 1) (.int .i64 0) (.int .i64 0) := fun wx n q hk => by
    have p5 : But (w.heap.size + 1) wx (put2 wx (w.heap.size + 1) (.int .i64 n) (.int .i64 q)) := But.set.trans But.set
    have hB : But bn w wx := (But.of (p := bn) B0).trans hk.1
    exact ⟨(hk.2 S0.names).but p5 (by omega), hB.on (p5.below (by omega) hB.size), Y0.but hk.1 (by omega)⟩
  have FIN := hide fin
  have HB0 := hide B0
  have HX9 := hide X9
  obtain ⟨u0, u1, u2, u3, u4, u5, u6, u7, u8⟩ := X9.tell
  subst hk
  have C := hide (ofLiteral_any vk (.bool vy) (.int .i64 vc) (.int .i64 vx) (.string vt) (.slice va vn vp) w0)
  generalize litTy vk = q at *
  clear fin S S0 B0 X9 Y0
  go_enter Tryz.func84, Tryz.ntmps84
  go_upto_region 1 with fail
  rw [← hw0]
  clear hw0
  go_wp2_with fail
  with_reducible refine (unhide C).mono ?_
  rintro e w1 ⟨rfl, hb⟩
  obtain ⟨n5, b5, Y⟩ := unhide FIN w1 (q.n : Int) q.k (Kn.of hb)
  have HN5 := hide n5
  have HF5 := hide b5
  have R := Y.put (.int .i64 (q.n : Int)) (.int .i64 q.k)
  have r0 := hide R.at0
  have r1' := hide R.at1
  have x0 := Y.at0
  have x1 := Y.at1
  have t0 := Y.th0
  have t1 := Y.th1
  have lx := Y.low
  clear n5 b5 Y R hb C FIN HB0 HX9
  go_wp2
  refine bodyPost_ret (v := .tuple #[sh q, .int .i64 0]) (by simp [results, Tryz.results84, go_sem, unhide r0, unhide r1']) rfl ⟨rfl, unhide HN5, unhide HF5⟩

set_option maxRecDepth 100000 in
set_option maxHeartbeats 8000000 in
theorem typed_name {B lo bt bn bf : Nat} {E : Ev} {M : Nat} {w : World} (S : TyS B lo bt bn bf E M w) (k vk : Int) (vy : Bool) (vc vx : Int) (vt : ByteArray) (va : Option Addr) (vn vp : Nat) (s : ByteArray) (a : Option Addr) (n cap : Nat) (hk : k = 2) :
    Calls Tryz.prog 84 #[.pointer (some ⟨bt, 0, none⟩), .agg #[.int .i64 k, .int .i64 vk, .bool vy, .int .i64 vc, .int .i64 vx, .string vt, .slice va vn vp, .string s, .slice a n cap]] w fun e w' => e = .returned (.tuple #[sh (nameF (E s)).2, .int .i64 (nameF (E s)).1]) ∧ MapF bn (envV E) w' ∧ But bn w w' := by
  have hlo := S.lowB
  have hbn := S.names.low
  obtain ⟨w0, hw0⟩ : ∃ w0, w0 = (w.alloc (.cells #[.int .i64 k, .int .i64 vk, .bool vy, .int .i64 vc, .int .i64 vx, .string vt, .slice va vn vp, .string s, .slice a n cap] 86)).alloc (.cells #[.int .i64 0, .int .i64 0] 158) := ⟨_, rfl⟩
  have B0 : Below w.heap.size w w0 := by rw [hw0]; exact below2 w _ _
  have X9 : V9 w0 w.heap.size (.int .i64 k) (.int .i64 vk) (.bool vy) (.int .i64 vc) (.int .i64 vx) (.string vt) (.slice va vn vp) (.string s) (.slice a n cap) := by
    rw [hw0]; exact (V9.new w 86 _ _ _ _ _ _ _ _ _).keep ((Below.refl _ _).alloc (Nat.le_refl _) _) (by simp)
  have Y0 : Bx2 w0 (w.heap.size + 1) (.int .i64 0) (.int .i64 0) := by
    rw [hw0]
    have := Bx2.new (w.alloc (.cells #[.int .i64 k, .int .i64 vk, .bool vy, .int .i64 vc, .int .i64 vx, .string vt, .slice va vn vp, .string s, .slice a n cap] 86)) 158 (.int .i64 0) (.int .i64 0)
    simpa using this
  have S0 := S.keep B0
  have z0 : w0.heap.size = w.heap.size + 1 + 1 := by rw [hw0]; simp
  have l9 : w.heap.size < w0.heap.size := by omega
  have l8 : w.heap.size + 1 < w0.heap.size := by omega
  clear z0
  have fin : ∀ (wx : World) (n q : Int), Kn bn (envV E) w0 wx → MapF bn (envV E) (put2 wx (w.heap.size + 1) (.int .i64 n) (.int .i64 q)) ∧ But bn w (put2 wx (w.heap.size + 1) (.int .i64 n) (.int .i64 q)) ∧ Bx2 wx (w.heap.size + 1) (.int .i64 0) (.int .i64 0) := fun wx n q hk => by
    have p5 : But (w.heap.size + 1) wx (put2 wx (w.heap.size + 1) (.int .i64 n) (.int .i64 q)) := But.set.trans But.set
    have hB : But bn w wx := (But.of (p := bn) B0).trans hk.1
    exact ⟨(hk.2 S0.names).but p5 (by omega), hB.on (p5.below (by omega) hB.size), Y0.but hk.1 (by omega)⟩
  have FIN := hide fin
  have HB0 := hide B0
  have HX9 := hide X9
  obtain ⟨u0, u1, u2, u3, u4, u5, u6, u7, u8⟩ := X9.tell
  subst hk
  have C := hide (ofName_any S0 s)
  generalize nameF (E s) = q at *
  obtain ⟨q1, q2⟩ := q
  simp only at C ⊢
  clear fin S S0 B0 X9 Y0
  go_enter Tryz.func84, Tryz.ntmps84
  go_upto_region 1 with fail
  rw [← hw0]
  clear hw0
  go_wp2_with fail
  with_reducible refine (unhide C).mono ?_
  rintro e w1 ⟨rfl, hb⟩
  obtain ⟨n5, b5, Y⟩ := unhide FIN w1 (q2.n : Int) q2.k (Kn.of hb)
  have HN5 := hide n5
  have HF5 := hide b5
  have R := Y.put (.int .i64 (q2.n : Int)) (.int .i64 q2.k)
  have r0 := hide R.at0
  have r1' := hide R.at1
  have x0 := Y.at0
  have x1 := Y.at1
  have t0 := Y.th0
  have t1 := Y.th1
  have lx := Y.low
  clear n5 b5 Y R hb C FIN HB0 HX9
  go_wp2
  refine bodyPost_ret (v := .tuple #[sh q2, .int .i64 q1]) (by simp [results, Tryz.results84, go_sem, unhide r0, unhide r1']) rfl ⟨rfl, unhide HN5, unhide HF5⟩

set_option maxRecDepth 100000 in
set_option maxHeartbeats 8000000 in
theorem typed_via {B lo bt bn bf : Nat} {E : Ev} {M : Nat} {w : World} (S : TyS B lo bt bn bf E M w) (k vk : Int) (vy : Bool) (vc vx : Int) (vt : ByteArray) (va : Option Addr) (vn vp : Nat) (s : ByteArray) (a : Option Addr) (n cap : Nat) (q1 : Int) (q2 : Sp) (hk : k = 18) (C : ∀ w0, Below w.heap.size w w0 → Calls Tryz.prog 111 #[.pointer (some ⟨bt, 0, none⟩), .agg #[.int .i64 k, .int .i64 vk, .bool vy, .int .i64 vc, .int .i64 vx, .string vt, .slice va vn vp, .string s, .slice a n cap]] w0 fun e w' => e = .returned (.tuple #[sh q2, .int .i64 q1]) ∧ MapF bn (envV E) w' ∧ But bn w0 w') :
    Calls Tryz.prog 84 #[.pointer (some ⟨bt, 0, none⟩), .agg #[.int .i64 k, .int .i64 vk, .bool vy, .int .i64 vc, .int .i64 vx, .string vt, .slice va vn vp, .string s, .slice a n cap]] w fun e w' => e = .returned (.tuple #[sh q2, .int .i64 q1]) ∧ MapF bn (envV E) w' ∧ But bn w w' := by
  have hlo := S.lowB
  have hbn := S.names.low
  obtain ⟨w0, hw0⟩ : ∃ w0, w0 = (w.alloc (.cells #[.int .i64 k, .int .i64 vk, .bool vy, .int .i64 vc, .int .i64 vx, .string vt, .slice va vn vp, .string s, .slice a n cap] 86)).alloc (.cells #[.int .i64 0, .int .i64 0] 158) := ⟨_, rfl⟩
  have B0 : Below w.heap.size w w0 := by rw [hw0]; exact below2 w _ _
  have X9 : V9 w0 w.heap.size (.int .i64 k) (.int .i64 vk) (.bool vy) (.int .i64 vc) (.int .i64 vx) (.string vt) (.slice va vn vp) (.string s) (.slice a n cap) := by
    rw [hw0]; exact (V9.new w 86 _ _ _ _ _ _ _ _ _).keep ((Below.refl _ _).alloc (Nat.le_refl _) _) (by simp)
  have Y0 : Bx2 w0 (w.heap.size + 1) (.int .i64 0) (.int .i64 0) := by
    rw [hw0]
    have := Bx2.new (w.alloc (.cells #[.int .i64 k, .int .i64 vk, .bool vy, .int .i64 vc, .int .i64 vx, .string vt, .slice va vn vp, .string s, .slice a n cap] 86)) 158 (.int .i64 0) (.int .i64 0)
    simpa using this
  have S0 := S.keep B0
  have z0 : w0.heap.size = w.heap.size + 1 + 1 := by rw [hw0]; simp
  have l9 : w.heap.size < w0.heap.size := by omega
  have l8 : w.heap.size + 1 < w0.heap.size := by omega
  clear z0
  have fin : ∀ (wx : World) (n q : Int), Kn bn (envV E) w0 wx → MapF bn (envV E) (put2 wx (w.heap.size + 1) (.int .i64 n) (.int .i64 q)) ∧ But bn w (put2 wx (w.heap.size + 1) (.int .i64 n) (.int .i64 q)) ∧ Bx2 wx (w.heap.size + 1) (.int .i64 0) (.int .i64 0) := fun wx n q hk => by
    have p5 : But (w.heap.size + 1) wx (put2 wx (w.heap.size + 1) (.int .i64 n) (.int .i64 q)) := But.set.trans But.set
    have hB : But bn w wx := (But.of (p := bn) B0).trans hk.1
    exact ⟨(hk.2 S0.names).but p5 (by omega), hB.on (p5.below (by omega) hB.size), Y0.but hk.1 (by omega)⟩
  have FIN := hide fin
  have HB0 := hide B0
  have HX9 := hide X9
  obtain ⟨u0, u1, u2, u3, u4, u5, u6, u7, u8⟩ := X9.tell
  subst hk
  replace C := hide (C w0 B0)
  clear fin S S0 B0 X9 Y0
  go_enter Tryz.func84, Tryz.ntmps84
  go_upto_region 1 with fail
  rw [← hw0]
  clear hw0
  go_wp2_with fail
  with_reducible refine (unhide C).mono ?_
  rintro e w1 ⟨rfl, hn1, hb1⟩
  obtain ⟨n5, b5, Y⟩ := unhide FIN w1 (q2.n : Int) q2.k ⟨hb1, fun _ => hn1⟩
  have HN5 := hide n5
  have HF5 := hide b5
  have R := Y.put (.int .i64 (q2.n : Int)) (.int .i64 q2.k)
  have r0 := hide R.at0
  have r1' := hide R.at1
  have x0 := Y.at0
  have x1 := Y.at1
  have t0 := Y.th0
  have t1 := Y.th1
  have lx := Y.low
  clear n5 b5 Y R hb1 hn1 C FIN HB0 HX9
  go_wp2
  refine bodyPost_ret (v := .tuple #[sh q2, .int .i64 q1]) (by simp [results, Tryz.results84, go_sem, unhide r0, unhide r1']) rfl ⟨rfl, unhide HN5, unhide HF5⟩

set_option maxRecDepth 100000 in
set_option maxHeartbeats 8000000 in
theorem typed_each20 {B lo bt bn bf : Nat} {E : Ev} {M : Nat} {w : World} (S : TyS B lo bt bn bf E M w) (k vk : Int) (vy : Bool) (vc vx : Int) (vt : ByteArray) (va : Option Addr) (vn vp : Nat) (s : ByteArray) (a : Option Addr) (n cap : Nat) (q1 : Int) (q2 : Sp) (hk : k = 20) (C : ∀ w0, Below w.heap.size w w0 → Calls Tryz.prog 112 #[.pointer (some ⟨bt, 0, none⟩), .agg #[.int .i64 k, .int .i64 vk, .bool vy, .int .i64 vc, .int .i64 vx, .string vt, .slice va vn vp, .string s, .slice a n cap]] w0 fun e w' => e = .returned (.tuple #[sh q2, .int .i64 q1]) ∧ MapF bn (envV E) w' ∧ But bn w0 w') :
    Calls Tryz.prog 84 #[.pointer (some ⟨bt, 0, none⟩), .agg #[.int .i64 k, .int .i64 vk, .bool vy, .int .i64 vc, .int .i64 vx, .string vt, .slice va vn vp, .string s, .slice a n cap]] w fun e w' => e = .returned (.tuple #[sh q2, .int .i64 q1]) ∧ MapF bn (envV E) w' ∧ But bn w w' := by
  have hlo := S.lowB
  have hbn := S.names.low
  obtain ⟨w0, hw0⟩ : ∃ w0, w0 = (w.alloc (.cells #[.int .i64 k, .int .i64 vk, .bool vy, .int .i64 vc, .int .i64 vx, .string vt, .slice va vn vp, .string s, .slice a n cap] 86)).alloc (.cells #[.int .i64 0, .int .i64 0] 158) := ⟨_, rfl⟩
  have B0 : Below w.heap.size w w0 := by rw [hw0]; exact below2 w _ _
  have X9 : V9 w0 w.heap.size (.int .i64 k) (.int .i64 vk) (.bool vy) (.int .i64 vc) (.int .i64 vx) (.string vt) (.slice va vn vp) (.string s) (.slice a n cap) := by
    rw [hw0]; exact (V9.new w 86 _ _ _ _ _ _ _ _ _).keep ((Below.refl _ _).alloc (Nat.le_refl _) _) (by simp)
  have Y0 : Bx2 w0 (w.heap.size + 1) (.int .i64 0) (.int .i64 0) := by
    rw [hw0]
    have := Bx2.new (w.alloc (.cells #[.int .i64 k, .int .i64 vk, .bool vy, .int .i64 vc, .int .i64 vx, .string vt, .slice va vn vp, .string s, .slice a n cap] 86)) 158 (.int .i64 0) (.int .i64 0)
    simpa using this
  have S0 := S.keep B0
  have z0 : w0.heap.size = w.heap.size + 1 + 1 := by rw [hw0]; simp
  have l9 : w.heap.size < w0.heap.size := by omega
  have l8 : w.heap.size + 1 < w0.heap.size := by omega
  clear z0
  have fin : ∀ (wx : World) (n q : Int), Kn bn (envV E) w0 wx → MapF bn (envV E) (put2 wx (w.heap.size + 1) (.int .i64 n) (.int .i64 q)) ∧ But bn w (put2 wx (w.heap.size + 1) (.int .i64 n) (.int .i64 q)) ∧ Bx2 wx (w.heap.size + 1) (.int .i64 0) (.int .i64 0) := fun wx n q hk => by
    have p5 : But (w.heap.size + 1) wx (put2 wx (w.heap.size + 1) (.int .i64 n) (.int .i64 q)) := But.set.trans But.set
    have hB : But bn w wx := (But.of (p := bn) B0).trans hk.1
    exact ⟨(hk.2 S0.names).but p5 (by omega), hB.on (p5.below (by omega) hB.size), Y0.but hk.1 (by omega)⟩
  have FIN := hide fin
  have HB0 := hide B0
  have HX9 := hide X9
  obtain ⟨u0, u1, u2, u3, u4, u5, u6, u7, u8⟩ := X9.tell
  subst hk
  replace C := hide (C w0 B0)
  clear fin S S0 B0 X9 Y0
  go_enter Tryz.func84, Tryz.ntmps84
  go_upto_region 1 with fail
  rw [← hw0]
  clear hw0
  go_wp2_with fail
  with_reducible refine (unhide C).mono ?_
  rintro e w1 ⟨rfl, hn1, hb1⟩
  obtain ⟨n5, b5, Y⟩ := unhide FIN w1 (q2.n : Int) q2.k ⟨hb1, fun _ => hn1⟩
  have HN5 := hide n5
  have HF5 := hide b5
  have R := Y.put (.int .i64 (q2.n : Int)) (.int .i64 q2.k)
  have r0 := hide R.at0
  have r1' := hide R.at1
  have x0 := Y.at0
  have x1 := Y.at1
  have t0 := Y.th0
  have t1 := Y.th1
  have lx := Y.low
  clear n5 b5 Y R hb1 hn1 C FIN HB0 HX9
  go_wp2
  refine bodyPost_ret (v := .tuple #[sh q2, .int .i64 q1]) (by simp [results, Tryz.results84, go_sem, unhide r0, unhide r1']) rfl ⟨rfl, unhide HN5, unhide HF5⟩

set_option maxRecDepth 100000 in
set_option maxHeartbeats 8000000 in
theorem typed_each21 {B lo bt bn bf : Nat} {E : Ev} {M : Nat} {w : World} (S : TyS B lo bt bn bf E M w) (k vk : Int) (vy : Bool) (vc vx : Int) (vt : ByteArray) (va : Option Addr) (vn vp : Nat) (s : ByteArray) (a : Option Addr) (n cap : Nat) (q1 : Int) (q2 : Sp) (hk : k = 21) (C : ∀ w0, Below w.heap.size w w0 → Calls Tryz.prog 112 #[.pointer (some ⟨bt, 0, none⟩), .agg #[.int .i64 k, .int .i64 vk, .bool vy, .int .i64 vc, .int .i64 vx, .string vt, .slice va vn vp, .string s, .slice a n cap]] w0 fun e w' => e = .returned (.tuple #[sh q2, .int .i64 q1]) ∧ MapF bn (envV E) w' ∧ But bn w0 w') :
    Calls Tryz.prog 84 #[.pointer (some ⟨bt, 0, none⟩), .agg #[.int .i64 k, .int .i64 vk, .bool vy, .int .i64 vc, .int .i64 vx, .string vt, .slice va vn vp, .string s, .slice a n cap]] w fun e w' => e = .returned (.tuple #[sh q2, .int .i64 q1]) ∧ MapF bn (envV E) w' ∧ But bn w w' := by
  have hlo := S.lowB
  have hbn := S.names.low
  obtain ⟨w0, hw0⟩ : ∃ w0, w0 = (w.alloc (.cells #[.int .i64 k, .int .i64 vk, .bool vy, .int .i64 vc, .int .i64 vx, .string vt, .slice va vn vp, .string s, .slice a n cap] 86)).alloc (.cells #[.int .i64 0, .int .i64 0] 158) := ⟨_, rfl⟩
  have B0 : Below w.heap.size w w0 := by rw [hw0]; exact below2 w _ _
  have X9 : V9 w0 w.heap.size (.int .i64 k) (.int .i64 vk) (.bool vy) (.int .i64 vc) (.int .i64 vx) (.string vt) (.slice va vn vp) (.string s) (.slice a n cap) := by
    rw [hw0]; exact (V9.new w 86 _ _ _ _ _ _ _ _ _).keep ((Below.refl _ _).alloc (Nat.le_refl _) _) (by simp)
  have Y0 : Bx2 w0 (w.heap.size + 1) (.int .i64 0) (.int .i64 0) := by
    rw [hw0]
    have := Bx2.new (w.alloc (.cells #[.int .i64 k, .int .i64 vk, .bool vy, .int .i64 vc, .int .i64 vx, .string vt, .slice va vn vp, .string s, .slice a n cap] 86)) 158 (.int .i64 0) (.int .i64 0)
    simpa using this
  have S0 := S.keep B0
  have z0 : w0.heap.size = w.heap.size + 1 + 1 := by rw [hw0]; simp
  have l9 : w.heap.size < w0.heap.size := by omega
  have l8 : w.heap.size + 1 < w0.heap.size := by omega
  clear z0
  have fin : ∀ (wx : World) (n q : Int), Kn bn (envV E) w0 wx → MapF bn (envV E) (put2 wx (w.heap.size + 1) (.int .i64 n) (.int .i64 q)) ∧ But bn w (put2 wx (w.heap.size + 1) (.int .i64 n) (.int .i64 q)) ∧ Bx2 wx (w.heap.size + 1) (.int .i64 0) (.int .i64 0) := fun wx n q hk => by
    have p5 : But (w.heap.size + 1) wx (put2 wx (w.heap.size + 1) (.int .i64 n) (.int .i64 q)) := But.set.trans But.set
    have hB : But bn w wx := (But.of (p := bn) B0).trans hk.1
    exact ⟨(hk.2 S0.names).but p5 (by omega), hB.on (p5.below (by omega) hB.size), Y0.but hk.1 (by omega)⟩
  have FIN := hide fin
  have HB0 := hide B0
  have HX9 := hide X9
  obtain ⟨u0, u1, u2, u3, u4, u5, u6, u7, u8⟩ := X9.tell
  subst hk
  replace C := hide (C w0 B0)
  clear fin S S0 B0 X9 Y0
  go_enter Tryz.func84, Tryz.ntmps84
  go_upto_region 1 with fail
  rw [← hw0]
  clear hw0
  go_wp2_with fail
  with_reducible refine (unhide C).mono ?_
  rintro e w1 ⟨rfl, hn1, hb1⟩
  obtain ⟨n5, b5, Y⟩ := unhide FIN w1 (q2.n : Int) q2.k ⟨hb1, fun _ => hn1⟩
  have HN5 := hide n5
  have HF5 := hide b5
  have R := Y.put (.int .i64 (q2.n : Int)) (.int .i64 q2.k)
  have r0 := hide R.at0
  have r1' := hide R.at1
  have x0 := Y.at0
  have x1 := Y.at1
  have t0 := Y.th0
  have t1 := Y.th1
  have lx := Y.low
  clear n5 b5 Y R hb1 hn1 C FIN HB0 HX9
  go_wp2
  refine bodyPost_ret (v := .tuple #[sh q2, .int .i64 q1]) (by simp [results, Tryz.results84, go_sem, unhide r0, unhide r1']) rfl ⟨rfl, unhide HN5, unhide HF5⟩

set_option maxRecDepth 100000 in
set_option maxHeartbeats 8000000 in
theorem typed_each22 {B lo bt bn bf : Nat} {E : Ev} {M : Nat} {w : World} (S : TyS B lo bt bn bf E M w) (k vk : Int) (vy : Bool) (vc vx : Int) (vt : ByteArray) (va : Option Addr) (vn vp : Nat) (s : ByteArray) (a : Option Addr) (n cap : Nat) (q1 : Int) (q2 : Sp) (hk : k = 22) (C : ∀ w0, Below w.heap.size w w0 → Calls Tryz.prog 112 #[.pointer (some ⟨bt, 0, none⟩), .agg #[.int .i64 k, .int .i64 vk, .bool vy, .int .i64 vc, .int .i64 vx, .string vt, .slice va vn vp, .string s, .slice a n cap]] w0 fun e w' => e = .returned (.tuple #[sh q2, .int .i64 q1]) ∧ MapF bn (envV E) w' ∧ But bn w0 w') :
    Calls Tryz.prog 84 #[.pointer (some ⟨bt, 0, none⟩), .agg #[.int .i64 k, .int .i64 vk, .bool vy, .int .i64 vc, .int .i64 vx, .string vt, .slice va vn vp, .string s, .slice a n cap]] w fun e w' => e = .returned (.tuple #[sh q2, .int .i64 q1]) ∧ MapF bn (envV E) w' ∧ But bn w w' := by
  have hlo := S.lowB
  have hbn := S.names.low
  obtain ⟨w0, hw0⟩ : ∃ w0, w0 = (w.alloc (.cells #[.int .i64 k, .int .i64 vk, .bool vy, .int .i64 vc, .int .i64 vx, .string vt, .slice va vn vp, .string s, .slice a n cap] 86)).alloc (.cells #[.int .i64 0, .int .i64 0] 158) := ⟨_, rfl⟩
  have B0 : Below w.heap.size w w0 := by rw [hw0]; exact below2 w _ _
  have X9 : V9 w0 w.heap.size (.int .i64 k) (.int .i64 vk) (.bool vy) (.int .i64 vc) (.int .i64 vx) (.string vt) (.slice va vn vp) (.string s) (.slice a n cap) := by
    rw [hw0]; exact (V9.new w 86 _ _ _ _ _ _ _ _ _).keep ((Below.refl _ _).alloc (Nat.le_refl _) _) (by simp)
  have Y0 : Bx2 w0 (w.heap.size + 1) (.int .i64 0) (.int .i64 0) := by
    rw [hw0]
    have := Bx2.new (w.alloc (.cells #[.int .i64 k, .int .i64 vk, .bool vy, .int .i64 vc, .int .i64 vx, .string vt, .slice va vn vp, .string s, .slice a n cap] 86)) 158 (.int .i64 0) (.int .i64 0)
    simpa using this
  have S0 := S.keep B0
  have z0 : w0.heap.size = w.heap.size + 1 + 1 := by rw [hw0]; simp
  have l9 : w.heap.size < w0.heap.size := by omega
  have l8 : w.heap.size + 1 < w0.heap.size := by omega
  clear z0
  have fin : ∀ (wx : World) (n q : Int), Kn bn (envV E) w0 wx → MapF bn (envV E) (put2 wx (w.heap.size + 1) (.int .i64 n) (.int .i64 q)) ∧ But bn w (put2 wx (w.heap.size + 1) (.int .i64 n) (.int .i64 q)) ∧ Bx2 wx (w.heap.size + 1) (.int .i64 0) (.int .i64 0) := fun wx n q hk => by
    have p5 : But (w.heap.size + 1) wx (put2 wx (w.heap.size + 1) (.int .i64 n) (.int .i64 q)) := But.set.trans But.set
    have hB : But bn w wx := (But.of (p := bn) B0).trans hk.1
    exact ⟨(hk.2 S0.names).but p5 (by omega), hB.on (p5.below (by omega) hB.size), Y0.but hk.1 (by omega)⟩
  have FIN := hide fin
  have HB0 := hide B0
  have HX9 := hide X9
  obtain ⟨u0, u1, u2, u3, u4, u5, u6, u7, u8⟩ := X9.tell
  subst hk
  replace C := hide (C w0 B0)
  clear fin S S0 B0 X9 Y0
  go_enter Tryz.func84, Tryz.ntmps84
  go_upto_region 1 with fail
  rw [← hw0]
  clear hw0
  go_wp2_with fail
  with_reducible refine (unhide C).mono ?_
  rintro e w1 ⟨rfl, hn1, hb1⟩
  obtain ⟨n5, b5, Y⟩ := unhide FIN w1 (q2.n : Int) q2.k ⟨hb1, fun _ => hn1⟩
  have HN5 := hide n5
  have HF5 := hide b5
  have R := Y.put (.int .i64 (q2.n : Int)) (.int .i64 q2.k)
  have r0 := hide R.at0
  have r1' := hide R.at1
  have x0 := Y.at0
  have x1 := Y.at1
  have t0 := Y.th0
  have t1 := Y.th1
  have lx := Y.low
  clear n5 b5 Y R hb1 hn1 C FIN HB0 HX9
  go_wp2
  refine bodyPost_ret (v := .tuple #[sh q2, .int .i64 q1]) (by simp [results, Tryz.results84, go_sem, unhide r0, unhide r1']) rfl ⟨rfl, unhide HN5, unhide HF5⟩

set_option maxRecDepth 100000 in
set_option maxHeartbeats 8000000 in
theorem typed_kids {B lo bt bn bf : Nat} {E : Ev} {M : Nat} {w : World} (S : TyS B lo bt bn bf E M w) (k vk : Int) (vy : Bool) (vc vx : Int) (vt : ByteArray) (va : Option Addr) (vn vp : Nat) (s : ByteArray) (a : Option Addr) (n cap : Nat) (r1 : Int) (r2 : List Sp) (hk : bare k) (h1 : r1 = 0 → leastK k ≤ (r2.length : Int) ∧ (r2.length : Int) ≤ mostK k) (hn : ∀ a ∈ r2, a.n ≤ 99999) (C : ∀ w0, Below w.heap.size w w0 → Calls Tryz.prog 113 #[.pointer (some ⟨bt, 0, none⟩), .slice a n cap] w0 fun e w' => ∃ v, e = .returned (.tuple #[v, .int .i64 r1]) ∧ SL w0.heap.size w' v r2 ∧ MapF bn (envV E) w' ∧ But bn w0 w') :
    Calls Tryz.prog 84 #[.pointer (some ⟨bt, 0, none⟩), .agg #[.int .i64 k, .int .i64 vk, .bool vy, .int .i64 vc, .int .i64 vx, .string vt, .slice va vn vp, .string s, .slice a n cap]] w fun e w' => e = .returned (.tuple #[sh (nodeT k (r1, r2)).2, .int .i64 (nodeT k (r1, r2)).1]) ∧ MapF bn (envV E) w' ∧ But bn w w' := by
  have hlo := S.lowB
  have hbn := S.names.low
  obtain ⟨w0, hw0⟩ : ∃ w0, w0 = (w.alloc (.cells #[.int .i64 k, .int .i64 vk, .bool vy, .int .i64 vc, .int .i64 vx, .string vt, .slice va vn vp, .string s, .slice a n cap] 86)).alloc (.cells #[.int .i64 0, .int .i64 0] 158) := ⟨_, rfl⟩
  have B0 : Below w.heap.size w w0 := by rw [hw0]; exact below2 w _ _
  have X9 : V9 w0 w.heap.size (.int .i64 k) (.int .i64 vk) (.bool vy) (.int .i64 vc) (.int .i64 vx) (.string vt) (.slice va vn vp) (.string s) (.slice a n cap) := by
    rw [hw0]; exact (V9.new w 86 _ _ _ _ _ _ _ _ _).keep ((Below.refl _ _).alloc (Nat.le_refl _) _) (by simp)
  have Y0 : Bx2 w0 (w.heap.size + 1) (.int .i64 0) (.int .i64 0) := by
    rw [hw0]
    have := Bx2.new (w.alloc (.cells #[.int .i64 k, .int .i64 vk, .bool vy, .int .i64 vc, .int .i64 vx, .string vt, .slice va vn vp, .string s, .slice a n cap] 86)) 158 (.int .i64 0) (.int .i64 0)
    simpa using this
  have S0 := S.keep B0
  have z0 : w0.heap.size = w.heap.size + 1 + 1 := by rw [hw0]; simp
  have l9 : w.heap.size < w0.heap.size := by omega
  have l8 : w.heap.size + 1 < w0.heap.size := by omega
  clear z0
  have fin : ∀ (wx : World) (n q : Int), Kn bn (envV E) w0 wx → MapF bn (envV E) (put2 wx (w.heap.size + 1) (.int .i64 n) (.int .i64 q)) ∧ But bn w (put2 wx (w.heap.size + 1) (.int .i64 n) (.int .i64 q)) ∧ Bx2 wx (w.heap.size + 1) (.int .i64 0) (.int .i64 0) := fun wx n q hk => by
    have p5 : But (w.heap.size + 1) wx (put2 wx (w.heap.size + 1) (.int .i64 n) (.int .i64 q)) := But.set.trans But.set
    have hB : But bn w wx := (But.of (p := bn) B0).trans hk.1
    exact ⟨(hk.2 S0.names).but p5 (by omega), hB.on (p5.below (by omega) hB.size), Y0.but hk.1 (by omega)⟩
  have FIN := hide fin
  have HB0 := hide B0
  have HX9 := hide X9
  obtain ⟨u0, u1, u2, u3, u4, u5, u6, u7, u8⟩ := X9.tell
  replace C := hide (C w0 B0)
  have HE : Hid (nodeT k (r1, r2) = if r1 ≠ 0 then (r1, ⟨0, 0⟩) else orW (ofNodeF k r2)) := hide rfl
  generalize nodeT k (r1, r2) = ER at *
  have HH := hide (And.intro hk (And.intro h1 hn))
  have k1 : (k == 1) = false := by rcases hk with rfl | rfl | rfl | rfl | rfl | rfl | rfl | rfl | rfl | rfl | rfl | rfl | rfl | rfl | rfl | rfl <;> rfl
  have k2 : (k == 2) = false := by rcases hk with rfl | rfl | rfl | rfl | rfl | rfl | rfl | rfl | rfl | rfl | rfl | rfl | rfl | rfl | rfl | rfl <;> rfl
  have k18 : (k == 18) = false := by rcases hk with rfl | rfl | rfl | rfl | rfl | rfl | rfl | rfl | rfl | rfl | rfl | rfl | rfl | rfl | rfl | rfl <;> rfl
  have k20 : (k == 20) = false := by rcases hk with rfl | rfl | rfl | rfl | rfl | rfl | rfl | rfl | rfl | rfl | rfl | rfl | rfl | rfl | rfl | rfl <;> rfl
  have k21 : (k == 21) = false := by rcases hk with rfl | rfl | rfl | rfl | rfl | rfl | rfl | rfl | rfl | rfl | rfl | rfl | rfl | rfl | rfl | rfl <;> rfl
  have k22 : (k == 22) = false := by rcases hk with rfl | rfl | rfl | rfl | rfl | rfl | rfl | rfl | rfl | rfl | rfl | rfl | rfl | rfl | rfl | rfl <;> rfl
  clear fin S S0 B0 X9 Y0 hk h1 hn
  go_enter Tryz.func84, Tryz.ntmps84
  go_upto_region 1 with fail
  rw [← hw0]
  clear hw0
  go_wp2_with fail
  with_reducible refine (unhide C).mono ?_
  rintro e w1 ⟨v, rfl, hSL, hn1, hb1⟩
  have K1 := hide (show Kn bn (envV E) w0 w1 from ⟨hb1, fun _ => hn1⟩)
  have m0 := ((unhide HX9).but hb1 (by omega)).tell.1
  by_cases hr : r1 = 0
  · subst hr
    rw [if_neg (by simp)] at HE
    have CN := hide (ofNode_any k w1 hSL (unhide HH).1 ((unhide HH).2.1 rfl).1 ((unhide HH).2.1 rfl).2 (unhide HH).2.2)
    generalize ofNodeF k r2 = p at *
    obtain ⟨p1, p2⟩ := p
    simp only at CN
    have OW := hide (fun wx => orWrong_any p1 p2 wx)
    generalize orW (p1, p2) = o at *
    obtain ⟨o1, o2⟩ := o
    simp only at OW
    clear hSL hn1 hb1 C HH u0 u1 u2 u3 u4 u5 u6 u7 u8 HX9 HB0
    go_wp2_with fail
    with_reducible refine (unhide CN).mono ?_
    rintro e w2 ⟨rfl, hb2⟩
    have K2 := hide (Kn.trans _ _ _ (unhide K1) (Kn.of hb2))
    clear hb2 CN K1 m0
    go_wp2_with fail
    with_reducible refine (unhide OW _).mono ?_
    rintro e w3 ⟨rfl, hb3⟩
    obtain ⟨n5, b5, Y⟩ := unhide FIN w3 (o2.n : Int) o2.k (Kn.trans _ _ _ (unhide K2) (Kn.of hb3))
    have HN5 := hide n5
    have HF5 := hide b5
    have R := Y.put (.int .i64 (o2.n : Int)) (.int .i64 o2.k)
    have r0 := hide R.at0
    have r1' := hide R.at1
    have x0 := Y.at0
    have x1 := Y.at1
    have t0 := Y.th0
    have t1 := Y.th1
    have lx := Y.low
    clear n5 b5 Y R hb3 OW FIN K2
    go_wp2
    refine bodyPost_ret (v := .tuple #[sh o2, .int .i64 o1]) (by simp [results, Tryz.results84, go_sem, unhide r0, unhide r1']) rfl ⟨by rw [unhide HE], unhide HN5, unhide HF5⟩
  · rw [if_pos hr] at HE
    have hr' : (r1 != 0) = true := by simpa using hr
    obtain ⟨n5, b5, Y⟩ := unhide FIN w1 0 0 (unhide K1)
    have HN5 := hide n5
    have HF5 := hide b5
    have R := Y.put (.int .i64 0) (.int .i64 0)
    have r0 := hide R.at0
    have r1' := hide R.at1
    have x0 := Y.at0
    have x1 := Y.at1
    have t0 := Y.th0
    have t1 := Y.th1
    have lx := Y.low
    clear n5 b5 Y R FIN K1 hSL hn1 hb1 C HH u0 u1 u2 u3 u4 u5 u6 u7 u8 HX9 HB0 hr
    go_wp2
    refine bodyPost_ret (v := .tuple #[shn 0 0, .int .i64 r1]) (by simp [results, Tryz.results84, go_sem, unhide r0, unhide r1']) rfl ⟨by rw [unhide HE]; rfl, unhide HN5, unhide HF5⟩

theorem Mem.kind {B : Nat} {w : World} {v : Tree} {vk : Int} {a1 a2 a3 a4 a5 : Value} (h : Mem B w v #[.int .i64 vk, a1, a2, a3, a4, a5]) : v.kind = vk := by
  cases v with
  | mk k y c x t ks =>
    rw [Mem] at h
    obtain ⟨_, _, a, cap, hv, _⟩ := h
    simp only [Array.mk.injEq, List.cons.injEq, Value.int.injEq, true_and] at hv
    exact hv.1.symm
theorem typed_of (k : Int) (v : Tree) (s : ByteArray) (ks : List XT) (IH : ∀ u ∈ ks, TypedC u) : TypedC (.mk k v s ks) := by
  intro B lo bt bn bf E M w cs hx hok S hM
  rw [XMem] at hx
  obtain ⟨_, _, vk, vy, vc, vx, vt, va, vn, vp, a, cap, rfl, hv, hk⟩ := hx
  rw [XT.ok] at hok
  obtain ⟨h1, h2, h3, h4, h5⟩ := hok
  rw [XT.size] at hM
  have hlo := S.lowB
  have hbn := S.names.low
  have hkb : ∀ w0, Below w.heap.size w w0 → (ks ≠ [] → ∃ b off, a = some ⟨b, off, none⟩ ∧ b < B ∧ XMemL B w0 ks b off) := fun w0 hb hne => by
    obtain ⟨b, off, ha, hl, hm⟩ := hk hne
    exact ⟨b, off, ha, hl, XMemL.below (hb.mono (by omega)) hl hm⟩
  rw [tyF]
  by_cases e1 : k = 1
  · rw [if_pos e1, ← hv.kind]
    have := hv.kind
    subst this
    exact typed_lit S k _ vy vc vx vt va vn vp s a ks.length cap e1
  rw [if_neg e1]
  by_cases e2 : k = 2
  · rw [if_pos e2]
    exact typed_name S k vk vy vc vx vt va vn vp s a ks.length cap e2
  rw [if_neg e2]
  by_cases e3 : k = 18
  · rw [if_pos e3]
    refine typed_via S k vk vy vc vx vt va vn vp s a ks.length cap _ _ e3 (fun w0 hb => ?_)
    cases hf : fnIn fnTab s.data.toList with
    | none =>
      refine (ofCall_none (S.keep hb) k vk vy vc vx vt va vn vp s a ks.length cap hf).mono ?_
      rintro e w1 ⟨rfl, hb1⟩
      exact ⟨rfl, ((S.keep hb).keep hb1).names, But.of hb1⟩
    | some q => exact ofCall_some ks IH (S.keep hb) k vk vy vc vx vt va vn vp s a cap q hf (hkb w0 hb) h5 (by omega)
  rw [if_neg e3]
  by_cases e4 : k = 20 ∨ k = 21 ∨ k = 22
  · rw [if_pos e4]
    have hlen : ks.length = 2 := by
      rcases e4 with rfl | rfl | rfl <;> (simp [leastK, mostK] at h3 h4; omega)
    obtain ⟨x, y, rfl⟩ : ∃ x y, ks = [x, y] := by
      match ks, hlen with
      | [x, y], _ => exact ⟨x, y, rfl⟩
    rw [okL, okL, okL] at h5
    simp only [sizeL] at hM
    have C : ∀ w0, Below w.heap.size w w0 → Calls Tryz.prog 112 #[.pointer (some ⟨bt, 0, none⟩), .agg #[.int .i64 k, .int .i64 vk, .bool vy, .int .i64 vc, .int .i64 vx, .string vt, .slice va vn vp, .string s, .slice a [x, y].length cap]] w0 fun e w' => e = .returned (.tuple #[sh (tyE k s [x, y] E).2, .int .i64 (tyE k s [x, y] E).1]) ∧ MapF bn (envV E) w' ∧ But bn w0 w' := fun w0 hb => by
      obtain ⟨b, off, rfl, hl, hm⟩ := hkb w0 hb (by simp)
      exact ofEach_any x y (IH x (by simp)) (IH y (by simp)) (S.keep hb) k vk vy vc vx vt va vn vp s b off cap hl hm h5.1 h5.2.1 (by omega)
    rcases e4 with e4 | e4 | e4
    · exact typed_each20 S k vk vy vc vx vt va vn vp s a _ cap _ _ e4 C
    · exact typed_each21 S k vk vy vc vx vt va vn vp s a _ cap _ _ e4 C
    · exact typed_each22 S k vk vy vc vx vt va vn vp s a _ cap _ _ e4 C
  rw [if_neg e4]
  have hb : bare k := by unfold bare; omega
  have hbd := tyL_bd ks E M S.bd
  exact typed_kids S k vk vy vc vx vt va vn vp s a ks.length cap _ _ hb (fun hr => by rw [tyL_len ks E hr]; exact ⟨h3, h4⟩) (fun b hb => by have := hbd b hb; omega) (fun w0 hbw => ofKids_any ks IH (S.keep hbw) (hkb w0 hbw) h5 (by omega))
mutual
theorem typed_all : ∀ x : XT, TypedC x
  | .mk k v s ks => typed_of k v s ks (fun u h => typed_alls ks u h)
theorem typed_alls : ∀ (ks : List XT) (u : XT), u ∈ ks → TypedC u
  | [], u, h => by cases h
  | v :: vs, u, h => by
    by_cases e : u = v
    · rw [e]; exact typed_all v
    · exact typed_alls vs u ((List.mem_cons.1 h).resolve_left e)
end
end Go.Proofs.YtnegjbkbfgkkjaaGreatDoor
