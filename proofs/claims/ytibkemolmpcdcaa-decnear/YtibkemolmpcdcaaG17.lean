/- The walk over DecReckons (written by gen_bs2.py). -/
import Derived.Test.YtibkemolmpcdcaaG16
namespace Go.Proofs.Ytibkemolmpcdcaa
open Go.RowKit

/-- a number in its block -/
structure C2 (w : World) (b : Nat) (u v : Int) : Prop where
  low : b < w.heap.size
  c0 : w.cell? ⟨b, 0, none⟩ = some (.int .i64 u)
  c1 : w.cell? ⟨b, 1, none⟩ = some (.int .i64 v)
  f0 : w.frozen? ⟨b, 0, none⟩ = false
  f1 : w.frozen? ⟨b, 1, none⟩ = false
theorem C2.below {w w' : World} {b : Nat} {u v : Int} (h : C2 w b u v) (hb : Below w.heap.size w w') : C2 w' b u v :=
  ⟨Nat.lt_of_lt_of_le h.low hb.size, (hb.cell (p := ⟨b, 0, none⟩) h.low).trans h.c0, (hb.cell (p := ⟨b, 1, none⟩) h.low).trans h.c1, (hb.frozen (p := ⟨b, 0, none⟩) h.low).trans h.f0, (hb.frozen (p := ⟨b, 1, none⟩) h.low).trans h.f1⟩
theorem C2.new (w : World) (u v : Int) : C2 (w.alloc (.cells #[.int .i64 u, .int .i64 v] 23)) w.heap.size u v :=
  ⟨by simp, by simp [go_sem], by simp [go_sem], by simp [go_sem], by simp [go_sem]⟩
theorem set2_below {w : World} {p B : Nat} (x y : Value) (hB : B ≤ p) : Below B w ((w.setCell ⟨p, 0, none⟩ x).setCell ⟨p, 1, none⟩ y) := ((Below.refl B w).setCell hB _).setCell hB _
theorem C2.other {w : World} {b p : Nat} {u v : Int} (h : C2 w b u v) (x y : Value) (ne : b ≠ p) : C2 ((w.setCell ⟨p, 0, none⟩ x).setCell ⟨p, 1, none⟩ y) b u v := by
  have e : ((w.setCell ⟨p, 0, none⟩ x).setCell ⟨p, 1, none⟩ y).heap[b]? = w.heap[b]? := (Below.heap_setCell _ ⟨p, 1, none⟩ y b ne).trans (Below.heap_setCell _ ⟨p, 0, none⟩ x b ne)
  exact ⟨by simpa [World.setCell] using h.low, (World.cell?_of_block (w := w) (a := ⟨b, 0, none⟩) e).trans h.c0, (World.cell?_of_block (w := w) (a := ⟨b, 1, none⟩) e).trans h.c1, (World.frozen?_of_block (w := w) (a := ⟨b, 0, none⟩) e).trans h.f0, (World.frozen?_of_block (w := w) (a := ⟨b, 1, none⟩) e).trans h.f1⟩
theorem C2.set {w : World} {b : Nat} {u v : Int} (h : C2 w b u v) (s t : Int) : C2 ((w.setCell ⟨b, 0, none⟩ (.int .i64 s)).setCell ⟨b, 1, none⟩ (.int .i64 t)) b s t :=
  ⟨by simpa [World.setCell] using h.low, by simp [go_sem, h.c0], by simp [go_sem, h.c1], by simp [go_sem, h.f0], by simp [go_sem, h.f1]⟩

set_option maxRecDepth 100000 in
set_option maxHeartbeats 4000000 in
theorem reckons_walk (c1 x1 c2 x2 : Int) (w : World) :
    Calls Try.prog 3 #[.agg #[.int .i64 c1, .int .i64 x1], .agg #[.int .i64 c2, .int .i64 x2]] w fun e w' => e = .returned (.bool true) ∧ Below w.heap.size w w' := by
  obtain ⟨s1, s2, s3, Dadd, Radd⟩ := both_add c1 x1 c2 x2
  have Dadd' := hide Dadd
  have Radd' := hide Radd
  obtain ⟨d1, d2, d3, Dsub, Rsub⟩ := both_sub c1 x1 c2 x2
  have Dsub' := hide Dsub
  have Rsub' := hide Rsub
  obtain ⟨m1, m2, m3, Dmul, Rmul⟩ := both_mul c1 x1 c2 x2
  have Dmul' := hide Dmul
  have Rmul' := hide Rmul
  obtain ⟨q1, q2, q3, Ddiv, Rdiv⟩ := both_div c1 x1 c2 x2
  have Ddiv' := hide Ddiv
  have Rdiv' := hide Rdiv
  obtain ⟨k1, k2, Dcmp, Rcmp⟩ := both_cmp c1 x1 c2 x2
  have Dcmp' := hide Dcmp
  have Rcmp' := hide Rcmp
  clear Dadd Radd Dsub Rsub Dmul Rmul Ddiv Rdiv Dcmp Rcmp
  obtain ⟨wB, hwB⟩ : ∃ wB, wB = ((w.alloc (.cells #[.int .i64 c1, .int .i64 x1] 23)).alloc (.cells #[.int .i64 c2, .int .i64 x2] 23)) := ⟨_, rfl⟩
  have HB : Hid (Below w.heap.size w wB) := hide (by rw [hwB]; exact below_step (below_new _ _) (below_new _ _))
  have a : C2 wB w.heap.size c1 x1 := by rw [hwB]; exact (C2.new w c1 x1).below (below_new _ _)
  have b : C2 wB (w.heap.size + 1) c2 x2 := by
    rw [hwB]
    have := C2.new (w.alloc (.cells #[.int .i64 c1, .int .i64 x1] 23)) c2 x2
    rwa [show (w.alloc (.cells #[.int .i64 c1, .int .i64 x1] 23)).heap.size = w.heap.size + 1 by simp] at this
  go_enter Try.func3, Try.ntmps3
  go_wp2_with fail
  refine (unhide Dadd' _).mono ?_
  rw [← hwB]
  unfold T3
  rintro e w1 ⟨rfl, hb⟩
  have B1 := below_step (unhide HB) hb
  have a1 := a.below hb
  have b1 := b.below hb
  clear hb a b HB hwB
  have N1 := below_new w1 (.cells #[.int .i64 s1, .int .i64 s2] 23)
  have cx := C2.new w1 s1 s2
  have a2 := a1.below N1
  have b2 := b1.below N1
  have B2 := below_step B1 N1
  obtain ⟨pl, p0, p1, pf0, pf1⟩ := id a1
  obtain ⟨rl, r0, r1, rf0, rf1⟩ := id b1
  clear a1 b1 N1
  go_wp2_with fail
  refine (unhide Radd' _).mono ?_
  try unfold T3
  rintro e w2 ⟨rfl, hb⟩
  have B3 := below_step B2 hb
  have a3 := a2.below hb
  have b3 := b2.below hb
  have x3 := cx.below hb
  have lx : w1.heap.size < w2.heap.size := x3.low
  have N2 := below_new w2 (.cells #[.int .i64 s1, .int .i64 s2] 23)
  have y4 := C2.new w2 s1 s2
  have a4 := a3.below N2
  have b4 := b3.below N2
  have x4 := x3.below N2
  have B4 := below_step B3 N2
  have hw0 : w.heap.size + 2 ≤ w1.heap.size := by have := a3.low; have := rl; omega
  clear pl p0 p1 pf0 pf1 rl r0 r1 rf0 rf1
  obtain ⟨pl, p0, p1, pf0, pf1⟩ := id a3
  obtain ⟨rl, r0, r1, rf0, rf1⟩ := id b3
  obtain ⟨ul, u0, u1, uf0, uf1⟩ := id x3
  clear a2 b2 cx hb a3 b3 x3 N2 B1 B2 B3
  go_wp2_with fail
  refine (unhide Dsub' _).mono ?_
  try unfold T3
  rintro e w3 ⟨rfl, hb⟩
  have B5 := below_step B4 hb
  have a5 := a4.below hb
  have b5 := b4.below hb
  have x5 := x4.below hb
  have y5 := y4.below hb
  clear pl p0 p1 pf0 pf1 rl r0 r1 rf0 rf1 ul u0 u1 uf0 uf1
  obtain ⟨pl, p0, p1, pf0, pf1⟩ := id a5
  obtain ⟨rl, r0, r1, rf0, rf1⟩ := id b5
  obtain ⟨ul, u0, u1, uf0, uf1⟩ := id x5
  obtain ⟨vl, v0, v1, vf0, vf1⟩ := id y5
  clear hb a4 b4 x4 y4 B4
  have a6 := a5.other (p := w1.heap.size) (.int .i64 d1) (.int .i64 d2) (by omega)
  have b6 := b5.other (p := w1.heap.size) (.int .i64 d1) (.int .i64 d2) (by omega)
  have y6 := y5.other (p := w1.heap.size) (.int .i64 d1) (.int .i64 d2) (by omega)
  have x6 := x5.set d1 d2
  have B6 := B5.trans (set2_below (w := w3) (p := w1.heap.size) (.int .i64 d1) (.int .i64 d2) (by omega))
  clear a5 b5 x5 y5 B5
  go_wp2_with fail
  refine (unhide Rsub' _).mono ?_
  try unfold T3
  rintro e w4 ⟨rfl, hb⟩
  have B7 := below_step B6 hb
  have a7 := a6.below hb
  have b7 := b6.below hb
  have x7 := x6.below hb
  have y7 := y6.below hb
  clear pl p0 p1 pf0 pf1 rl r0 r1 rf0 rf1 ul u0 u1 uf0 uf1 vl v0 v1 vf0 vf1
  obtain ⟨pl, p0, p1, pf0, pf1⟩ := id a7
  obtain ⟨rl, r0, r1, rf0, rf1⟩ := id b7
  obtain ⟨ul, u0, u1, uf0, uf1⟩ := id x7
  obtain ⟨vl, v0, v1, vf0, vf1⟩ := id y7
  clear hb a6 b6 x6 y6 B6
  have a8 := a7.other (p := w2.heap.size) (.int .i64 d1) (.int .i64 d2) (by omega)
  have b8 := b7.other (p := w2.heap.size) (.int .i64 d1) (.int .i64 d2) (by omega)
  have x8 := x7.other (p := w2.heap.size) (.int .i64 d1) (.int .i64 d2) (by omega)
  have y8 := y7.set d1 d2
  have B8 := B7.trans (set2_below (w := w4) (p := w2.heap.size) (.int .i64 d1) (.int .i64 d2) (by omega))
  clear a7 b7 x7 y7 B7
  go_wp2_with fail
  refine (unhide Dmul' _).mono ?_
  try unfold T3
  rintro e w5 ⟨rfl, hb⟩
  have B9 := below_step B8 hb
  have a9 := a8.below hb
  have b9 := b8.below hb
  have x9 := x8.below hb
  have y9 := y8.below hb
  clear pl p0 p1 pf0 pf1 rl r0 r1 rf0 rf1 ul u0 u1 uf0 uf1 vl v0 v1 vf0 vf1
  obtain ⟨pl, p0, p1, pf0, pf1⟩ := id a9
  obtain ⟨rl, r0, r1, rf0, rf1⟩ := id b9
  obtain ⟨ul, u0, u1, uf0, uf1⟩ := id x9
  obtain ⟨vl, v0, v1, vf0, vf1⟩ := id y9
  clear hb a8 b8 x8 y8 B8
  have a10 := a9.other (p := w1.heap.size) (.int .i64 m1) (.int .i64 m2) (by omega)
  have b10 := b9.other (p := w1.heap.size) (.int .i64 m1) (.int .i64 m2) (by omega)
  have y10 := y9.other (p := w1.heap.size) (.int .i64 m1) (.int .i64 m2) (by omega)
  have x10 := x9.set m1 m2
  have B10 := B9.trans (set2_below (w := w5) (p := w1.heap.size) (.int .i64 m1) (.int .i64 m2) (by omega))
  clear a9 b9 x9 y9 B9
  go_wp2_with fail
  refine (unhide Rmul' _).mono ?_
  try unfold T3
  rintro e w6 ⟨rfl, hb⟩
  have B11 := below_step B10 hb
  have a11 := a10.below hb
  have b11 := b10.below hb
  have x11 := x10.below hb
  have y11 := y10.below hb
  clear pl p0 p1 pf0 pf1 rl r0 r1 rf0 rf1 ul u0 u1 uf0 uf1 vl v0 v1 vf0 vf1
  obtain ⟨pl, p0, p1, pf0, pf1⟩ := id a11
  obtain ⟨rl, r0, r1, rf0, rf1⟩ := id b11
  obtain ⟨ul, u0, u1, uf0, uf1⟩ := id x11
  obtain ⟨vl, v0, v1, vf0, vf1⟩ := id y11
  clear hb a10 b10 x10 y10 B10
  have a12 := a11.other (p := w2.heap.size) (.int .i64 m1) (.int .i64 m2) (by omega)
  have b12 := b11.other (p := w2.heap.size) (.int .i64 m1) (.int .i64 m2) (by omega)
  have x12 := x11.other (p := w2.heap.size) (.int .i64 m1) (.int .i64 m2) (by omega)
  have y12 := y11.set m1 m2
  have B12 := B11.trans (set2_below (w := w6) (p := w2.heap.size) (.int .i64 m1) (.int .i64 m2) (by omega))
  clear a11 b11 x11 y11 B11
  go_wp2_with fail
  refine (unhide Ddiv' _).mono ?_
  try unfold T3
  rintro e w7 ⟨rfl, hb⟩
  have B13 := below_step B12 hb
  have a13 := a12.below hb
  have b13 := b12.below hb
  have x13 := x12.below hb
  have y13 := y12.below hb
  clear pl p0 p1 pf0 pf1 rl r0 r1 rf0 rf1 ul u0 u1 uf0 uf1 vl v0 v1 vf0 vf1
  obtain ⟨pl, p0, p1, pf0, pf1⟩ := id a13
  obtain ⟨rl, r0, r1, rf0, rf1⟩ := id b13
  obtain ⟨ul, u0, u1, uf0, uf1⟩ := id x13
  obtain ⟨vl, v0, v1, vf0, vf1⟩ := id y13
  clear hb a12 b12 x12 y12 B12
  have a14 := a13.other (p := w1.heap.size) (.int .i64 q1) (.int .i64 q2) (by omega)
  have b14 := b13.other (p := w1.heap.size) (.int .i64 q1) (.int .i64 q2) (by omega)
  have y14 := y13.other (p := w1.heap.size) (.int .i64 q1) (.int .i64 q2) (by omega)
  have x14 := x13.set q1 q2
  have B14 := B13.trans (set2_below (w := w7) (p := w1.heap.size) (.int .i64 q1) (.int .i64 q2) (by omega))
  clear a13 b13 x13 y13 B13
  go_wp2_with fail
  refine (unhide Rdiv' _).mono ?_
  try unfold T3
  rintro e w8 ⟨rfl, hb⟩
  have B15 := below_step B14 hb
  have a15 := a14.below hb
  have b15 := b14.below hb
  have x15 := x14.below hb
  have y15 := y14.below hb
  clear pl p0 p1 pf0 pf1 rl r0 r1 rf0 rf1 ul u0 u1 uf0 uf1 vl v0 v1 vf0 vf1
  obtain ⟨pl, p0, p1, pf0, pf1⟩ := id a15
  obtain ⟨rl, r0, r1, rf0, rf1⟩ := id b15
  obtain ⟨ul, u0, u1, uf0, uf1⟩ := id x15
  obtain ⟨vl, v0, v1, vf0, vf1⟩ := id y15
  clear hb a14 b14 x14 y14 B14
  have a16 := a15.other (p := w2.heap.size) (.int .i64 q1) (.int .i64 q2) (by omega)
  have b16 := b15.other (p := w2.heap.size) (.int .i64 q1) (.int .i64 q2) (by omega)
  have x16 := x15.other (p := w2.heap.size) (.int .i64 q1) (.int .i64 q2) (by omega)
  have y16 := y15.set q1 q2
  have B16 := B15.trans (set2_below (w := w8) (p := w2.heap.size) (.int .i64 q1) (.int .i64 q2) (by omega))
  clear a15 b15 x15 y15 B15
  go_wp2_with fail
  refine (unhide Dcmp' _).mono ?_
  try unfold T3
  rintro e w9 ⟨rfl, hb⟩
  have B17 := below_step B16 hb
  have a17 := a16.below hb
  have b17 := b16.below hb
  clear pl p0 p1 pf0 pf1 rl r0 r1 rf0 rf1 ul u0 u1 uf0 uf1 vl v0 v1 vf0 vf1
  obtain ⟨pl, p0, p1, pf0, pf1⟩ := id a17
  obtain ⟨rl, r0, r1, rf0, rf1⟩ := id b17
  clear hb a16 b16 x16 y16 B16 a17 b17
  go_wp2_with fail
  refine (unhide Rcmp' _).mono ?_
  try unfold T3
  rintro e w10 ⟨rfl, hb⟩
  have B := below_step B17 hb
  clear hb B17
  clear pl p0 p1 pf0 pf1 rl r0 r1 rf0 rf1
  go_wp2
  go_ret
  exact ⟨rfl, B⟩
end Go.Proofs.Ytibkemolmpcdcaa

/- Walks: the document's answer: Cut (written by gen_br9.py). -/
namespace Go.Proofs.Ytibkemolmpcdcaa
open Go.RowKit

theorem C2.kept {w w' : World} {b p q : Nat} {u v : Int} (h : C2 w b u v) (k : Blk p w w') (_hz : ZA w p q) (ne : b ≠ p) : C2 w' b u v := by
  have e := k.block b h.low ne
  exact ⟨Nat.lt_of_lt_of_le h.low k.size, (World.cell?_of_block (w := w) (a := ⟨b, 0, none⟩) e).trans h.c0, (World.cell?_of_block (w := w) (a := ⟨b, 1, none⟩) e).trans h.c1, (World.frozen?_of_block (w := w) (a := ⟨b, 0, none⟩) e).trans h.f0, (World.frozen?_of_block (w := w) (a := ⟨b, 1, none⟩) e).trans h.f1⟩
theorem Ln_nr {N D : Int} (hD : 0 < D) : Ln (Dm.nr N D) ≤ Ln N + 3 := by
  have h := Ln_div (N := N) hD
  have h2 := Ln_add (N / D) 1
  have h3 : Ln 1 ≤ 1 := Ln_le (by decide)
  unfold Dm.nr
  split <;> omega

theorem ratd_at (c x : Int) (w : World) (k : Nat) (hk : w.heap.size = k) (c1 : -9223372036854775808 ≤ c) (c2 : c ≤ 9223372036854775807) (h1 : -200 ≤ x) (h2 : x ≤ 200) :
    Calls Try.prog 21 #[.agg #[.int .i64 c, .int .i64 x]] w fun e w' => e = .returned (.pointer (some ⟨k + 1, 0, none⟩)) ∧ RV w' (k + 1) (c * (10 : Int) ^ x.toNat) ((10 : Int) ^ (-x).toNat) ∧ Below w.heap.size w w' := by
  subst hk
  exact ratd_any c x w c1 c2 h1 h2

set_option maxHeartbeats 2000000 in
theorem cut_no (c x p way : Int) (w : World) (h : (Dm.wrongN c x != 0) = true) :
    Calls Try.prog 17 #[.agg #[.int .i64 c, .int .i64 x], .int .i64 p, .int .i64 way] w fun e w' => e = T3 0 0 (Dm.wrongN c x) ∧ Below w.heap.size w w' := by
  obtain ⟨wB, hwB⟩ : ∃ wB, wB = ((w.alloc (.cells #[.int .i64 c, .int .i64 x] 23)).alloc (.cells #[.int .i64 0, .int .i64 0] 23)) := ⟨_, rfl⟩
  have NB : Below w.heap.size w wB := by rw [hwB]; exact below_step (below_new _ _) (below_new _ _)
  have sB : wB.heap.size = w.heap.size + 2 := by rw [hwB]; simp
  have a0 : C2 wB w.heap.size c x := by rw [hwB]; exact (C2.new w c x).below (below_new _ _)
  have r0 : C2 wB (w.heap.size + 1) 0 0 := by
    rw [hwB]
    have := C2.new (w.alloc (.cells #[.int .i64 c, .int .i64 x] 23)) 0 0
    rwa [show (w.alloc (.cells #[.int .i64 c, .int .i64 x] 23)).heap.size = w.heap.size + 1 by simp] at this
  have W1 := hide (rwrong_any c x ((w.alloc (.cells #[.int .i64 c, .int .i64 x] 23)).alloc (.cells #[.int .i64 0, .int .i64 0] 23)))
  go_enter Try.func17, Try.ntmps17
  go_wp2_with fail
  refine (unhide W1).mono ?_
  rw [← hwB]
  rintro e w1 ⟨rfl, hb⟩
  obtain ⟨rl, r0, r1, rf0, rf1⟩ := r0.below hb
  have HB := hide (below_step NB hb)
  clear hb a0
  go_wp2
  refine bodyPost_ret (v := .tuple #[.agg #[.int .i64 0, .int .i64 0], .int .i64 (Dm.wrongN c x)]) (by simp [results, Try.results17, go_sem, r0, r1]) rfl ?_
  exact ⟨rfl, ((unhide HB).setCell (by simp) _).setCell (by simp) _⟩

set_option maxHeartbeats 2000000 in
theorem cut_far (c x p way : Int) (w : World) (h : Dm.wrongN c x = 0) (hp : p < -40 ∨ 40 < p) :
    Calls Try.prog 17 #[.agg #[.int .i64 c, .int .i64 x], .int .i64 p, .int .i64 way] w fun e w' => e = T3 0 0 3 ∧ Below w.heap.size w w' := by
  obtain ⟨wB, hwB⟩ : ∃ wB, wB = ((w.alloc (.cells #[.int .i64 c, .int .i64 x] 23)).alloc (.cells #[.int .i64 0, .int .i64 0] 23)) := ⟨_, rfl⟩
  have NB : Below w.heap.size w wB := by rw [hwB]; exact below_step (below_new _ _) (below_new _ _)
  have sB : wB.heap.size = w.heap.size + 2 := by rw [hwB]; simp
  have a0 : C2 wB w.heap.size c x := by rw [hwB]; exact (C2.new w c x).below (below_new _ _)
  have r0 : C2 wB (w.heap.size + 1) 0 0 := by
    rw [hwB]
    have := C2.new (w.alloc (.cells #[.int .i64 c, .int .i64 x] 23)) 0 0
    rwa [show (w.alloc (.cells #[.int .i64 c, .int .i64 x] 23)).heap.size = w.heap.size + 1 by simp] at this
  have W1 := hide (rwrong_any c x ((w.alloc (.cells #[.int .i64 c, .int .i64 x] 23)).alloc (.cells #[.int .i64 0, .int .i64 0] 23)))
  have g1 : (Dm.wrongN c x != 0) = false := by rw [h]; rfl
  clear h
  go_enter Try.func17, Try.ntmps17
  go_wp2_with fail
  refine (unhide W1).mono ?_
  rw [← hwB]
  rintro e w1 ⟨rfl, hb⟩
  obtain ⟨rl, r0, r1, rf0, rf1⟩ := r0.below hb
  have HB := hide (below_step NB hb)
  clear hb a0
  rcases hp with hp | hp
  · go_wp2
    refine bodyPost_ret (v := .tuple #[.agg #[.int .i64 0, .int .i64 0], .int .i64 3]) (by simp [results, Try.results17, go_sem, r0, r1]) rfl ?_
    exact ⟨rfl, ((unhide HB).setCell (by simp) _).setCell (by simp) _⟩
  · have hp2 : ¬ p < -40 := by omega
    go_wp2
    refine bodyPost_ret (v := .tuple #[.agg #[.int .i64 0, .int .i64 0], .int .i64 3]) (by simp [results, Try.results17, go_sem, r0, r1]) rfl ?_
    exact ⟨rfl, ((unhide HB).setCell (by simp) _).setCell (by simp) _⟩

set_option maxRecDepth 100000 in
set_option maxHeartbeats 4000000 in
theorem cut_near (c x p : Int) (w : World) (h : Dm.wrongN c x = 0) (c1 : -1000000000000000000 < c) (c2 : c < 1000000000000000000) (x1 : -40 ≤ x) (x2 : x ≤ 40) (p1 : -40 ≤ p) (p2 : p ≤ 40) :
    Calls Try.prog 17 #[.agg #[.int .i64 c, .int .i64 x], .int .i64 p, .int .i64 (0)] w fun e w' => e = toldT (fitT ((Dm.nr (c * (10 : Int) ^ x.toNat * (10 : Int) ^ p.toNat) ((10 : Int) ^ (-x).toNat * (10 : Int) ^ (-p).toNat)) * ((10 : Int) ^ (-p).toNat)) ((10 : Int) ^ (- -p).toNat)) ∧ Below w.heap.size w w' := by
  obtain ⟨wB, hwB⟩ : ∃ wB, wB = ((w.alloc (.cells #[.int .i64 c, .int .i64 x] 23)).alloc (.cells #[.int .i64 0, .int .i64 0] 23)) := ⟨_, rfl⟩
  have NB : Below w.heap.size w wB := by rw [hwB]; exact below_step (below_new _ _) (below_new _ _)
  have sB : wB.heap.size = w.heap.size + 2 := by rw [hwB]; simp
  have a0 : C2 wB w.heap.size c x := by rw [hwB]; exact (C2.new w c x).below (below_new _ _)
  have r0 : C2 wB (w.heap.size + 1) 0 0 := by
    rw [hwB]
    have := C2.new (w.alloc (.cells #[.int .i64 c, .int .i64 x] 23)) 0 0
    rwa [show (w.alloc (.cells #[.int .i64 c, .int .i64 x] 23)).heap.size = w.heap.size + 1 by simp] at this
  have W1 := hide (rwrong_any c x ((w.alloc (.cells #[.int .i64 c, .int .i64 x] 23)).alloc (.cells #[.int .i64 0, .int .i64 0] 23)))
  have g1 : (Dm.wrongN c x != 0) = false := by rw [h]; rfl
  have lc : Ln c ≤ 2 := Ln_small (by omega)
  have t1 := Ln_ten x.toNat
  have t2 := Ln_ten (-x).toNat
  have t3 := Ln_ten p.toNat
  have t4 := Ln_ten (-p).toNat
  have t5 := Ln_mul c ((10 : Int) ^ x.toNat)
  have t6 := Ln_mul (c * (10 : Int) ^ x.toNat) ((10 : Int) ^ p.toNat)
  have t7 := Ln_mul ((10 : Int) ^ (-x).toNat) ((10 : Int) ^ (-p).toNat)
  have t8 := Ln_ten (- -p).toNat
  have HD : Hid (0 < ((10 : Int) ^ (-x).toNat * (10 : Int) ^ (-p).toNat)) := hide (Int.mul_pos (Int.pow_pos (by decide)) (Int.pow_pos (by decide)))
  have wr1 : IntKind.i64.wrap (-p) = -p := by rw [IntKind.wrap_i64]; omega
  have q1 : ¬ p < -40 := by omega
  have q2 : ¬ 40 < p := by omega
  clear h
  go_enter Try.func17, Try.ntmps17
  go_wp2_with fail
  refine (unhide W1).mono ?_
  rw [← hwB]
  rintro e w1 ⟨rfl, hb⟩
  have a1 := a0.below hb
  have rs1 := r0.below hb
  have B1 := below_step NB hb
  have s1 := hb.size
  have R2 := hide (rat2_any (-p) w1 (by omega) (by omega))
  obtain ⟨al, k0, k1, -, -⟩ := id a1
  clear hb a0 r0 NB hwB
  go_wp2_with fail
  refine (unhide R2).mono ?_
  rintro e w2 ⟨rfl, ru, hb2⟩
  have lw1 := ru.place.low
  have N2 := below_new w2 (.cells #[.bool false, .slice none 0 0, .bool false, .slice none 0 0] 43)
  have a2 := (a1.below hb2).below N2
  have rs2 := (rs1.below hb2).below N2
  have B2 := below_step (below_step B1 hb2) N2
  have ru2 := ru.below N2
  have z2 := ZA.newR w2
  have RD := hide (ratd_at c x (w2.alloc (.cells #[.bool false, .slice none 0 0, .bool false, .slice none 0 0] 43)) (w2.heap.size + 1) (by simp) (by omega) (by omega) (by omega) (by omega))
  clear al k0 k1
  obtain ⟨al, k0, k1, -, -⟩ := a1.below hb2
  clear a1 rs1 B1 hb2 ru N2 R2
  go_wp2_with fail
  refine (unhide RD).mono ?_
  rintro e w3 ⟨rfl, rd, hb3⟩
  have rs3 := rs2.below hb3
  have B3 := below_step B2 hb3
  have ru3 := ru2.below hb3
  have z3 := z2.below hb3
  have QU := hide (rquo_any w2.heap.size (w2.heap.size + 1 + 1) w1.heap.size (c * (10 : Int) ^ x.toNat) ((10 : Int) ^ (-x).toNat) ((10 : Int) ^ (-p).toNat) ((10 : Int) ^ (- -p).toNat) w3 z3 rd ru3 (pow_ne _) (pow_ne _) (by omega) (by omega) (by omega) (by omega) (pow_ne _))
  have hpp : (- -p).toNat = p.toNat := by omega
  have s2 : w.heap.size + 2 ≤ w2.heap.size := by omega
  clear al k0 k1 a2 rs2 B2 ru2 z2 rd hb3 RD
  go_wp2_with fail
  refine (unhide QU).mono ?_
  rintro e w4 ⟨rfl, rq, kq⟩
  have B4 := B3.trans (kq.below (by omega) B3.size)
  have ru4 := ru3.kept (Kept.blk' kq z3 ru3.place.low (by omega))
  have rs4 := rs3.kept kq z3 (by omega)
  have s4 := B4.size
  have rq4 : RV w4 w2.heap.size (c * (10 : Int) ^ x.toNat * (10 : Int) ^ p.toNat) ((10 : Int) ^ (-x).toNat * (10 : Int) ^ (-p).toNat) := by rw [hpp] at rq; exact rq
  have hlw4 : w2.heap.size < w4.heap.size := rq4.place.low
  clear rq kq rs3 B3 ru3 z3 QU
  have NE := hide (nearest_any w2.heap.size (c * (10 : Int) ^ x.toNat * (10 : Int) ^ p.toNat) ((10 : Int) ^ (-x).toNat * (10 : Int) ^ (-p).toNat) w4 rq4 (unhide HD) (by omega) (by omega))
  clear rq4
  go_wp2_with fail
  refine (unhide NE).mono ?_
  rintro e w5 ⟨rfl, i5, hb5⟩
  have B5 := below_step B4 hb5
  have ru5 := ru4.below hb5
  have rs5 := rs4.below hb5
  clear hb5 B4 ru4 rs4 NE
  have lq : Ln (Dm.nr (c * (10 : Int) ^ x.toNat * (10 : Int) ^ p.toNat) ((10 : Int) ^ (-x).toNat * (10 : Int) ^ (-p).toNat)) ≤ 2000 := Nat.le_trans (Ln_nr (unhide HD)) (by omega)
  obtain ⟨q, hq⟩ : ∃ q, Dm.nr (c * (10 : Int) ^ x.toNat * (10 : Int) ^ p.toNat) ((10 : Int) ^ (-x).toNat * (10 : Int) ^ (-p).toNat) = q := ⟨_, rfl⟩
  rw [hq] at i5 lq
  have HQ := hide hq
  clear hq
  have lbq := i5.place.low
  have s5 := B5.size
  have N5 := below_new w5 (.cells #[.bool false, .slice none 0 0, .bool false, .slice none 0 0] 43)
  have N6 := below_new (w5.alloc (.cells #[.bool false, .slice none 0 0, .bool false, .slice none 0 0] 43)) (.cells #[.bool false, .slice none 0 0, .bool false, .slice none 0 0] 43)
  have BB := below_step N5 N6
  have z6 := (ZA.newR w5).below N6
  have z7 : ZA ((w5.alloc (.cells #[.bool false, .slice none 0 0, .bool false, .slice none 0 0] 43)).alloc (.cells #[.bool false, .slice none 0 0, .bool false, .slice none 0 0] 43)) (w5.heap.size + 1) 2 := by
    have := ZA.newR (w5.alloc (.cells #[.bool false, .slice none 0 0, .bool false, .slice none 0 0] 43))
    rwa [show (w5.alloc (.cells #[.bool false, .slice none 0 0, .bool false, .slice none 0 0] 43)).heap.size = w5.heap.size + 1 by simp] at this
  have B6 := below_step B5 BB
  have ru6 := ru5.below BB
  have rs6 := rs5.below BB
  have lu5 := ru5.place.low
  have lr5 := rs5.low
  have SI := hide (rsetInt_any (w5.heap.size + 1) w4.heap.size 0 q _ z7 (i5.below BB) (by omega))
  clear i5 N5 N6 BB B5 ru5 rs5
  go_wp2_with fail
  refine (unhide SI).mono ?_
  rintro e w6 ⟨rfl, ri, ki⟩
  have B7 := B6.trans (ki.below (by omega) B6.size)
  have ru7 := ru6.kept (Kept.blk' ki z7 ru6.place.low (by omega))
  have rs7 := rs6.kept ki z7 (by omega)
  have MU := hide (rmul_any w5.heap.size (w5.heap.size + 1) w1.heap.size q 1 ((10 : Int) ^ (-p).toNat) ((10 : Int) ^ (- -p).toNat) w6 (z6.blk ki) ri ru7 (by omega) (pow_ne _) (by omega) (Nat.le_trans (Ln_small (x := 1) (by decide)) (by omega)) (by omega) (by omega))
  have z8 := z6.blk ki
  clear ri ki SI B6 ru6 rs6 z6 z7
  go_wp2_with fail
  refine (unhide MU).mono ?_
  rintro e w7 ⟨rfl, rm, km⟩
  have B8 := B7.trans (km.below (by omega) B7.size)
  have rs8 := rs7.kept km z8 (by omega)
  have u1 := Ln_mul q ((10 : Int) ^ (-p).toNat)
  have rm2 : RV w7 w5.heap.size (q * ((10 : Int) ^ (-p).toNat)) ((10 : Int) ^ (- -p).toNat) := by rw [Int.one_mul] at rm; exact rm
  obtain ⟨v1, v2, v3, hv⟩ : ∃ v1 v2 v3, fitT (q * ((10 : Int) ^ (-p).toNat)) ((10 : Int) ^ (- -p).toNat) = (v1, v2, v3) := ⟨_, _, _, rfl⟩
  have FT : Hid (Calls Try.prog 36 #[.pointer (some ⟨w5.heap.size, 0, none⟩)] w7 fun e w' => e = .returned (.tuple #[.agg #[.int .i64 v1, .int .i64 v2], .int .i64 v3]) ∧ Below w7.heap.size w7 w') := hide ((fit_any w5.heap.size (q * ((10 : Int) ^ (-p).toNat)) ((10 : Int) ^ (- -p).toNat) w7 rm2 (Int.pow_pos (by decide)) (by omega) (by omega)).mono (by
    rintro e w' ⟨rfl, h⟩
    exact ⟨by rw [hv]; rfl, h⟩))
  have HV := hide hv
  clear rm rm2 km MU hv B7 rs7 ru7 z8
  go_wp2_with fail
  refine (unhide FT).mono ?_
  rintro e w8 ⟨rfl, hb8⟩
  have HB := hide (below_step B8 hb8)
  obtain ⟨rl, rr0, rr1, rf0, rf1⟩ := rs8.below hb8
  clear hb8 FT B8 rs8
  go_wp2
  refine bodyPost_ret (v := .tuple #[.agg #[.int .i64 v1, .int .i64 v2], .int .i64 v3]) (by simp [results, Try.results17, go_sem, rr0, rr1]) rfl ?_
  rw [unhide HQ, unhide HV]
  exact ⟨rfl, ((unhide HB).setCell (by simp) _).setCell (by simp) _⟩

set_option maxRecDepth 100000 in
set_option maxHeartbeats 4000000 in
theorem cut_down (c x p : Int) (w : World) (h : Dm.wrongN c x = 0) (c1 : -1000000000000000000 < c) (c2 : c < 1000000000000000000) (x1 : -40 ≤ x) (x2 : x ≤ 40) (p1 : -40 ≤ p) (p2 : p ≤ 40) :
    Calls Try.prog 17 #[.agg #[.int .i64 c, .int .i64 x], .int .i64 p, .int .i64 (-1)] w fun e w' => e = toldT (fitT (((c * (10 : Int) ^ x.toNat * (10 : Int) ^ p.toNat) / ((10 : Int) ^ (-x).toNat * (10 : Int) ^ (-p).toNat)) * ((10 : Int) ^ (-p).toNat)) ((10 : Int) ^ (- -p).toNat)) ∧ Below w.heap.size w w' := by
  obtain ⟨wB, hwB⟩ : ∃ wB, wB = ((w.alloc (.cells #[.int .i64 c, .int .i64 x] 23)).alloc (.cells #[.int .i64 0, .int .i64 0] 23)) := ⟨_, rfl⟩
  have NB : Below w.heap.size w wB := by rw [hwB]; exact below_step (below_new _ _) (below_new _ _)
  have sB : wB.heap.size = w.heap.size + 2 := by rw [hwB]; simp
  have a0 : C2 wB w.heap.size c x := by rw [hwB]; exact (C2.new w c x).below (below_new _ _)
  have r0 : C2 wB (w.heap.size + 1) 0 0 := by
    rw [hwB]
    have := C2.new (w.alloc (.cells #[.int .i64 c, .int .i64 x] 23)) 0 0
    rwa [show (w.alloc (.cells #[.int .i64 c, .int .i64 x] 23)).heap.size = w.heap.size + 1 by simp] at this
  have W1 := hide (rwrong_any c x ((w.alloc (.cells #[.int .i64 c, .int .i64 x] 23)).alloc (.cells #[.int .i64 0, .int .i64 0] 23)))
  have g1 : (Dm.wrongN c x != 0) = false := by rw [h]; rfl
  have lc : Ln c ≤ 2 := Ln_small (by omega)
  have t1 := Ln_ten x.toNat
  have t2 := Ln_ten (-x).toNat
  have t3 := Ln_ten p.toNat
  have t4 := Ln_ten (-p).toNat
  have t5 := Ln_mul c ((10 : Int) ^ x.toNat)
  have t6 := Ln_mul (c * (10 : Int) ^ x.toNat) ((10 : Int) ^ p.toNat)
  have t7 := Ln_mul ((10 : Int) ^ (-x).toNat) ((10 : Int) ^ (-p).toNat)
  have t8 := Ln_ten (- -p).toNat
  have HD : Hid (0 < ((10 : Int) ^ (-x).toNat * (10 : Int) ^ (-p).toNat)) := hide (Int.mul_pos (Int.pow_pos (by decide)) (Int.pow_pos (by decide)))
  have wr1 : IntKind.i64.wrap (-p) = -p := by rw [IntKind.wrap_i64]; omega
  have q1 : ¬ p < -40 := by omega
  have q2 : ¬ 40 < p := by omega
  clear h
  go_enter Try.func17, Try.ntmps17
  go_wp2_with fail
  refine (unhide W1).mono ?_
  rw [← hwB]
  rintro e w1 ⟨rfl, hb⟩
  have a1 := a0.below hb
  have rs1 := r0.below hb
  have B1 := below_step NB hb
  have s1 := hb.size
  have R2 := hide (rat2_any (-p) w1 (by omega) (by omega))
  obtain ⟨al, k0, k1, -, -⟩ := id a1
  clear hb a0 r0 NB hwB
  go_wp2_with fail
  refine (unhide R2).mono ?_
  rintro e w2 ⟨rfl, ru, hb2⟩
  have lw1 := ru.place.low
  have N2 := below_new w2 (.cells #[.bool false, .slice none 0 0, .bool false, .slice none 0 0] 43)
  have a2 := (a1.below hb2).below N2
  have rs2 := (rs1.below hb2).below N2
  have B2 := below_step (below_step B1 hb2) N2
  have ru2 := ru.below N2
  have z2 := ZA.newR w2
  have RD := hide (ratd_at c x (w2.alloc (.cells #[.bool false, .slice none 0 0, .bool false, .slice none 0 0] 43)) (w2.heap.size + 1) (by simp) (by omega) (by omega) (by omega) (by omega))
  clear al k0 k1
  obtain ⟨al, k0, k1, -, -⟩ := a1.below hb2
  clear a1 rs1 B1 hb2 ru N2 R2
  go_wp2_with fail
  refine (unhide RD).mono ?_
  rintro e w3 ⟨rfl, rd, hb3⟩
  have rs3 := rs2.below hb3
  have B3 := below_step B2 hb3
  have ru3 := ru2.below hb3
  have z3 := z2.below hb3
  have QU := hide (rquo_any w2.heap.size (w2.heap.size + 1 + 1) w1.heap.size (c * (10 : Int) ^ x.toNat) ((10 : Int) ^ (-x).toNat) ((10 : Int) ^ (-p).toNat) ((10 : Int) ^ (- -p).toNat) w3 z3 rd ru3 (pow_ne _) (pow_ne _) (by omega) (by omega) (by omega) (by omega) (pow_ne _))
  have hpp : (- -p).toNat = p.toNat := by omega
  have s2 : w.heap.size + 2 ≤ w2.heap.size := by omega
  clear al k0 k1 a2 rs2 B2 ru2 z2 rd hb3 RD
  go_wp2_with fail
  refine (unhide QU).mono ?_
  rintro e w4 ⟨rfl, rq, kq⟩
  have B4 := B3.trans (kq.below (by omega) B3.size)
  have ru4 := ru3.kept (Kept.blk' kq z3 ru3.place.low (by omega))
  have rs4 := rs3.kept kq z3 (by omega)
  have s4 := B4.size
  have rq4 : RV w4 w2.heap.size (c * (10 : Int) ^ x.toNat * (10 : Int) ^ p.toNat) ((10 : Int) ^ (-x).toNat * (10 : Int) ^ (-p).toNat) := by rw [hpp] at rq; exact rq
  have hlw4 : w2.heap.size < w4.heap.size := rq4.place.low
  clear rq kq rs3 B3 ru3 z3 QU
  have NE := hide (down_any w2.heap.size (c * (10 : Int) ^ x.toNat * (10 : Int) ^ p.toNat) ((10 : Int) ^ (-x).toNat * (10 : Int) ^ (-p).toNat) w4 rq4 (unhide HD) (by omega) (by omega))
  clear rq4
  go_wp2_with fail
  refine (unhide NE).mono ?_
  rintro e w5 ⟨rfl, i5, hb5⟩
  have B5 := below_step B4 hb5
  have ru5 := ru4.below hb5
  have rs5 := rs4.below hb5
  clear hb5 B4 ru4 rs4 NE
  have lq : Ln ((c * (10 : Int) ^ x.toNat * (10 : Int) ^ p.toNat) / ((10 : Int) ^ (-x).toNat * (10 : Int) ^ (-p).toNat)) ≤ 2000 := Nat.le_trans (Ln_div (unhide HD)) (by omega)
  obtain ⟨q, hq⟩ : ∃ q, (c * (10 : Int) ^ x.toNat * (10 : Int) ^ p.toNat) / ((10 : Int) ^ (-x).toNat * (10 : Int) ^ (-p).toNat) = q := ⟨_, rfl⟩
  rw [hq] at i5 lq
  have HQ := hide hq
  clear hq
  have lbq := i5.place.low
  have s5 := B5.size
  have N5 := below_new w5 (.cells #[.bool false, .slice none 0 0, .bool false, .slice none 0 0] 43)
  have N6 := below_new (w5.alloc (.cells #[.bool false, .slice none 0 0, .bool false, .slice none 0 0] 43)) (.cells #[.bool false, .slice none 0 0, .bool false, .slice none 0 0] 43)
  have BB := below_step N5 N6
  have z6 := (ZA.newR w5).below N6
  have z7 : ZA ((w5.alloc (.cells #[.bool false, .slice none 0 0, .bool false, .slice none 0 0] 43)).alloc (.cells #[.bool false, .slice none 0 0, .bool false, .slice none 0 0] 43)) (w5.heap.size + 1) 2 := by
    have := ZA.newR (w5.alloc (.cells #[.bool false, .slice none 0 0, .bool false, .slice none 0 0] 43))
    rwa [show (w5.alloc (.cells #[.bool false, .slice none 0 0, .bool false, .slice none 0 0] 43)).heap.size = w5.heap.size + 1 by simp] at this
  have B6 := below_step B5 BB
  have ru6 := ru5.below BB
  have rs6 := rs5.below BB
  have lu5 := ru5.place.low
  have lr5 := rs5.low
  have SI := hide (rsetInt_any (w5.heap.size + 1) w4.heap.size 0 q _ z7 (i5.below BB) (by omega))
  clear i5 N5 N6 BB B5 ru5 rs5
  go_wp2_with fail
  refine (unhide SI).mono ?_
  rintro e w6 ⟨rfl, ri, ki⟩
  have B7 := B6.trans (ki.below (by omega) B6.size)
  have ru7 := ru6.kept (Kept.blk' ki z7 ru6.place.low (by omega))
  have rs7 := rs6.kept ki z7 (by omega)
  have MU := hide (rmul_any w5.heap.size (w5.heap.size + 1) w1.heap.size q 1 ((10 : Int) ^ (-p).toNat) ((10 : Int) ^ (- -p).toNat) w6 (z6.blk ki) ri ru7 (by omega) (pow_ne _) (by omega) (Nat.le_trans (Ln_small (x := 1) (by decide)) (by omega)) (by omega) (by omega))
  have z8 := z6.blk ki
  clear ri ki SI B6 ru6 rs6 z6 z7
  go_wp2_with fail
  refine (unhide MU).mono ?_
  rintro e w7 ⟨rfl, rm, km⟩
  have B8 := B7.trans (km.below (by omega) B7.size)
  have rs8 := rs7.kept km z8 (by omega)
  have u1 := Ln_mul q ((10 : Int) ^ (-p).toNat)
  have rm2 : RV w7 w5.heap.size (q * ((10 : Int) ^ (-p).toNat)) ((10 : Int) ^ (- -p).toNat) := by rw [Int.one_mul] at rm; exact rm
  obtain ⟨v1, v2, v3, hv⟩ : ∃ v1 v2 v3, fitT (q * ((10 : Int) ^ (-p).toNat)) ((10 : Int) ^ (- -p).toNat) = (v1, v2, v3) := ⟨_, _, _, rfl⟩
  have FT : Hid (Calls Try.prog 36 #[.pointer (some ⟨w5.heap.size, 0, none⟩)] w7 fun e w' => e = .returned (.tuple #[.agg #[.int .i64 v1, .int .i64 v2], .int .i64 v3]) ∧ Below w7.heap.size w7 w') := hide ((fit_any w5.heap.size (q * ((10 : Int) ^ (-p).toNat)) ((10 : Int) ^ (- -p).toNat) w7 rm2 (Int.pow_pos (by decide)) (by omega) (by omega)).mono (by
    rintro e w' ⟨rfl, h⟩
    exact ⟨by rw [hv]; rfl, h⟩))
  have HV := hide hv
  clear rm rm2 km MU hv B7 rs7 ru7 z8
  go_wp2_with fail
  refine (unhide FT).mono ?_
  rintro e w8 ⟨rfl, hb8⟩
  have HB := hide (below_step B8 hb8)
  obtain ⟨rl, rr0, rr1, rf0, rf1⟩ := rs8.below hb8
  clear hb8 FT B8 rs8
  go_wp2
  refine bodyPost_ret (v := .tuple #[.agg #[.int .i64 v1, .int .i64 v2], .int .i64 v3]) (by simp [results, Try.results17, go_sem, rr0, rr1]) rfl ?_
  rw [unhide HQ, unhide HV]
  exact ⟨rfl, ((unhide HB).setCell (by simp) _).setCell (by simp) _⟩

set_option maxRecDepth 100000 in
set_option maxHeartbeats 4000000 in
theorem cut_up (c x p : Int) (w : World) (h : Dm.wrongN c x = 0) (c1 : -1000000000000000000 < c) (c2 : c < 1000000000000000000) (x1 : -40 ≤ x) (x2 : x ≤ 40) (p1 : -40 ≤ p) (p2 : p ≤ 40) :
    Calls Try.prog 17 #[.agg #[.int .i64 c, .int .i64 x], .int .i64 p, .int .i64 (1)] w fun e w' => e = toldT (fitT ((-(-(c * (10 : Int) ^ x.toNat * (10 : Int) ^ p.toNat) / ((10 : Int) ^ (-x).toNat * (10 : Int) ^ (-p).toNat))) * ((10 : Int) ^ (-p).toNat)) ((10 : Int) ^ (- -p).toNat)) ∧ Below w.heap.size w w' := by
  obtain ⟨wB, hwB⟩ : ∃ wB, wB = ((w.alloc (.cells #[.int .i64 c, .int .i64 x] 23)).alloc (.cells #[.int .i64 0, .int .i64 0] 23)) := ⟨_, rfl⟩
  have NB : Below w.heap.size w wB := by rw [hwB]; exact below_step (below_new _ _) (below_new _ _)
  have sB : wB.heap.size = w.heap.size + 2 := by rw [hwB]; simp
  have a0 : C2 wB w.heap.size c x := by rw [hwB]; exact (C2.new w c x).below (below_new _ _)
  have r0 : C2 wB (w.heap.size + 1) 0 0 := by
    rw [hwB]
    have := C2.new (w.alloc (.cells #[.int .i64 c, .int .i64 x] 23)) 0 0
    rwa [show (w.alloc (.cells #[.int .i64 c, .int .i64 x] 23)).heap.size = w.heap.size + 1 by simp] at this
  have W1 := hide (rwrong_any c x ((w.alloc (.cells #[.int .i64 c, .int .i64 x] 23)).alloc (.cells #[.int .i64 0, .int .i64 0] 23)))
  have g1 : (Dm.wrongN c x != 0) = false := by rw [h]; rfl
  have lc : Ln c ≤ 2 := Ln_small (by omega)
  have t1 := Ln_ten x.toNat
  have t2 := Ln_ten (-x).toNat
  have t3 := Ln_ten p.toNat
  have t4 := Ln_ten (-p).toNat
  have t5 := Ln_mul c ((10 : Int) ^ x.toNat)
  have t6 := Ln_mul (c * (10 : Int) ^ x.toNat) ((10 : Int) ^ p.toNat)
  have t7 := Ln_mul ((10 : Int) ^ (-x).toNat) ((10 : Int) ^ (-p).toNat)
  have t8 := Ln_ten (- -p).toNat
  have HD : Hid (0 < ((10 : Int) ^ (-x).toNat * (10 : Int) ^ (-p).toNat)) := hide (Int.mul_pos (Int.pow_pos (by decide)) (Int.pow_pos (by decide)))
  have wr1 : IntKind.i64.wrap (-p) = -p := by rw [IntKind.wrap_i64]; omega
  have q1 : ¬ p < -40 := by omega
  have q2 : ¬ 40 < p := by omega
  clear h
  go_enter Try.func17, Try.ntmps17
  go_wp2_with fail
  refine (unhide W1).mono ?_
  rw [← hwB]
  rintro e w1 ⟨rfl, hb⟩
  have a1 := a0.below hb
  have rs1 := r0.below hb
  have B1 := below_step NB hb
  have s1 := hb.size
  have R2 := hide (rat2_any (-p) w1 (by omega) (by omega))
  obtain ⟨al, k0, k1, -, -⟩ := id a1
  clear hb a0 r0 NB hwB
  go_wp2_with fail
  refine (unhide R2).mono ?_
  rintro e w2 ⟨rfl, ru, hb2⟩
  have lw1 := ru.place.low
  have N2 := below_new w2 (.cells #[.bool false, .slice none 0 0, .bool false, .slice none 0 0] 43)
  have a2 := (a1.below hb2).below N2
  have rs2 := (rs1.below hb2).below N2
  have B2 := below_step (below_step B1 hb2) N2
  have ru2 := ru.below N2
  have z2 := ZA.newR w2
  have RD := hide (ratd_at c x (w2.alloc (.cells #[.bool false, .slice none 0 0, .bool false, .slice none 0 0] 43)) (w2.heap.size + 1) (by simp) (by omega) (by omega) (by omega) (by omega))
  clear al k0 k1
  obtain ⟨al, k0, k1, -, -⟩ := a1.below hb2
  clear a1 rs1 B1 hb2 ru N2 R2
  go_wp2_with fail
  refine (unhide RD).mono ?_
  rintro e w3 ⟨rfl, rd, hb3⟩
  have rs3 := rs2.below hb3
  have B3 := below_step B2 hb3
  have ru3 := ru2.below hb3
  have z3 := z2.below hb3
  have QU := hide (rquo_any w2.heap.size (w2.heap.size + 1 + 1) w1.heap.size (c * (10 : Int) ^ x.toNat) ((10 : Int) ^ (-x).toNat) ((10 : Int) ^ (-p).toNat) ((10 : Int) ^ (- -p).toNat) w3 z3 rd ru3 (pow_ne _) (pow_ne _) (by omega) (by omega) (by omega) (by omega) (pow_ne _))
  have hpp : (- -p).toNat = p.toNat := by omega
  have s2 : w.heap.size + 2 ≤ w2.heap.size := by omega
  clear al k0 k1 a2 rs2 B2 ru2 z2 rd hb3 RD
  go_wp2_with fail
  refine (unhide QU).mono ?_
  rintro e w4 ⟨rfl, rq, kq⟩
  have B4 := B3.trans (kq.below (by omega) B3.size)
  have ru4 := ru3.kept (Kept.blk' kq z3 ru3.place.low (by omega))
  have rs4 := rs3.kept kq z3 (by omega)
  have s4 := B4.size
  have rq4 : RV w4 w2.heap.size (c * (10 : Int) ^ x.toNat * (10 : Int) ^ p.toNat) ((10 : Int) ^ (-x).toNat * (10 : Int) ^ (-p).toNat) := by rw [hpp] at rq; exact rq
  have hlw4 : w2.heap.size < w4.heap.size := rq4.place.low
  clear rq kq rs3 B3 ru3 z3 QU
  have N4 := below_new w4 (.cells #[.bool false, .slice none 0 0, .bool false, .slice none 0 0] 43)
  have RN := hide (rneg_any w4.heap.size w2.heap.size (c * (10 : Int) ^ x.toNat * (10 : Int) ^ p.toNat) ((10 : Int) ^ (-x).toNat * (10 : Int) ^ (-p).toNat) (w4.alloc (.cells #[.bool false, .slice none 0 0, .bool false, .slice none 0 0] 43)) (ZA.newR w4) (rq4.below N4) (by have := unhide HD; omega) (by omega) (by omega))
  have ru4a := ru4.below N4
  have rs4a := rs4.below N4
  have B4a := below_step B4 N4
  have z4a := ZA.newR w4
  have l4 := rq4.place.low
  have l4u := ru4.place.low
  have l4r := rs4.low
  clear rq4 N4
  go_wp2_with fail
  refine (unhide RN).mono ?_
  rintro e w4b ⟨rfl, rn, kn⟩
  have B4b := B4a.trans (kn.below (by omega) B4a.size)
  have ru4b := ru4a.kept (Kept.blk' kn z4a ru4a.place.low (by omega))
  have rs4b := rs4a.kept kn z4a (by omega)
  have ND := hide (down_any w4.heap.size (-(c * (10 : Int) ^ x.toNat * (10 : Int) ^ p.toNat)) ((10 : Int) ^ (-x).toNat * (10 : Int) ^ (-p).toNat) w4b rn (unhide HD) (by rw [Ln_neg]; omega) (by omega))
  clear rn kn RN ru4a rs4a B4a z4a B4 ru4 rs4
  go_wp2_with fail
  refine (unhide ND).mono ?_
  rintro e w4c ⟨rfl, i4c, hb4c⟩
  have B4c := below_step B4b hb4c
  have ru4c := ru4b.below hb4c
  have rs4c := rs4b.below hb4c
  have l4c := B4b.size
  have l4d := ru4b.place.low
  have l4e := rs4b.low
  have lq0 : Ln (-(c * (10 : Int) ^ x.toNat * (10 : Int) ^ p.toNat) / ((10 : Int) ^ (-x).toNat * (10 : Int) ^ (-p).toNat)) ≤ 2000 := Nat.le_trans (Ln_div (unhide HD)) (by rw [Ln_neg]; omega)
  have NG := hide (ineg_any w4b.heap.size 0 w4b.heap.size 0 (-(c * (10 : Int) ^ x.toNat * (10 : Int) ^ p.toNat) / ((10 : Int) ^ (-x).toNat * (10 : Int) ^ (-p).toNat)) w4c i4c.place i4c (by unfold Ln at lq0; omega))
  have z4c := i4c.place
  clear i4c hb4c ND B4b ru4b rs4b
  go_wp2_with fail
  refine (unhide NG).mono ?_
  rintro e w5 ⟨rfl, i5, ho5⟩
  have B5 := B4c.trans (ho5.below (by omega) B4c.size)
  have ru5 := ru4c.kept (Kept.blk' ho5.blk z4c ru4c.place.low (by omega))
  have rs5 := rs4c.kept ho5.blk z4c (by omega)
  clear ho5 NG B4c ru4c rs4c z4c
  have lq : Ln (-(-(c * (10 : Int) ^ x.toNat * (10 : Int) ^ p.toNat) / ((10 : Int) ^ (-x).toNat * (10 : Int) ^ (-p).toNat))) ≤ 2000 := by rw [Ln_neg]; exact lq0
  obtain ⟨q, hq⟩ : ∃ q, -(-(c * (10 : Int) ^ x.toNat * (10 : Int) ^ p.toNat) / ((10 : Int) ^ (-x).toNat * (10 : Int) ^ (-p).toNat)) = q := ⟨_, rfl⟩
  rw [hq] at i5 lq
  have HQ := hide hq
  clear hq
  have lbq := i5.place.low
  have s5 := B5.size
  have N5 := below_new w5 (.cells #[.bool false, .slice none 0 0, .bool false, .slice none 0 0] 43)
  have N6 := below_new (w5.alloc (.cells #[.bool false, .slice none 0 0, .bool false, .slice none 0 0] 43)) (.cells #[.bool false, .slice none 0 0, .bool false, .slice none 0 0] 43)
  have BB := below_step N5 N6
  have z6 := (ZA.newR w5).below N6
  have z7 : ZA ((w5.alloc (.cells #[.bool false, .slice none 0 0, .bool false, .slice none 0 0] 43)).alloc (.cells #[.bool false, .slice none 0 0, .bool false, .slice none 0 0] 43)) (w5.heap.size + 1) 2 := by
    have := ZA.newR (w5.alloc (.cells #[.bool false, .slice none 0 0, .bool false, .slice none 0 0] 43))
    rwa [show (w5.alloc (.cells #[.bool false, .slice none 0 0, .bool false, .slice none 0 0] 43)).heap.size = w5.heap.size + 1 by simp] at this
  have B6 := below_step B5 BB
  have ru6 := ru5.below BB
  have rs6 := rs5.below BB
  have lu5 := ru5.place.low
  have lr5 := rs5.low
  have SI := hide (rsetInt_any (w5.heap.size + 1) w4b.heap.size 0 q _ z7 (i5.below BB) (by omega))
  clear i5 N5 N6 BB B5 ru5 rs5
  go_wp2_with fail
  refine (unhide SI).mono ?_
  rintro e w6 ⟨rfl, ri, ki⟩
  have B7 := B6.trans (ki.below (by omega) B6.size)
  have ru7 := ru6.kept (Kept.blk' ki z7 ru6.place.low (by omega))
  have rs7 := rs6.kept ki z7 (by omega)
  have MU := hide (rmul_any w5.heap.size (w5.heap.size + 1) w1.heap.size q 1 ((10 : Int) ^ (-p).toNat) ((10 : Int) ^ (- -p).toNat) w6 (z6.blk ki) ri ru7 (by omega) (pow_ne _) (by omega) (Nat.le_trans (Ln_small (x := 1) (by decide)) (by omega)) (by omega) (by omega))
  have z8 := z6.blk ki
  clear ri ki SI B6 ru6 rs6 z6 z7
  go_wp2_with fail
  refine (unhide MU).mono ?_
  rintro e w7 ⟨rfl, rm, km⟩
  have B8 := B7.trans (km.below (by omega) B7.size)
  have rs8 := rs7.kept km z8 (by omega)
  have u1 := Ln_mul q ((10 : Int) ^ (-p).toNat)
  have rm2 : RV w7 w5.heap.size (q * ((10 : Int) ^ (-p).toNat)) ((10 : Int) ^ (- -p).toNat) := by rw [Int.one_mul] at rm; exact rm
  obtain ⟨v1, v2, v3, hv⟩ : ∃ v1 v2 v3, fitT (q * ((10 : Int) ^ (-p).toNat)) ((10 : Int) ^ (- -p).toNat) = (v1, v2, v3) := ⟨_, _, _, rfl⟩
  have FT : Hid (Calls Try.prog 36 #[.pointer (some ⟨w5.heap.size, 0, none⟩)] w7 fun e w' => e = .returned (.tuple #[.agg #[.int .i64 v1, .int .i64 v2], .int .i64 v3]) ∧ Below w7.heap.size w7 w') := hide ((fit_any w5.heap.size (q * ((10 : Int) ^ (-p).toNat)) ((10 : Int) ^ (- -p).toNat) w7 rm2 (Int.pow_pos (by decide)) (by omega) (by omega)).mono (by
    rintro e w' ⟨rfl, h⟩
    exact ⟨by rw [hv]; rfl, h⟩))
  have HV := hide hv
  clear rm rm2 km MU hv B7 rs7 ru7 z8
  go_wp2_with fail
  refine (unhide FT).mono ?_
  rintro e w8 ⟨rfl, hb8⟩
  have HB := hide (below_step B8 hb8)
  obtain ⟨rl, rr0, rr1, rf0, rf1⟩ := rs8.below hb8
  clear hb8 FT B8 rs8
  go_wp2
  refine bodyPost_ret (v := .tuple #[.agg #[.int .i64 v1, .int .i64 v2], .int .i64 v3]) (by simp [results, Try.results17, go_sem, rr0, rr1]) rfl ?_
  rw [unhide HQ, unhide HV]
  exact ⟨rfl, ((unhide HB).setCell (by simp) _).setCell (by simp) _⟩

end Go.Proofs.Ytibkemolmpcdcaa
