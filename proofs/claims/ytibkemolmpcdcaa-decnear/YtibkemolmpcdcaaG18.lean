/- The walk over DecNear (written by gen_bs6.py). -/
import Derived.Test.YtibkemolmpcdcaaG16
import Derived.Test.YtibkemolmpcdcaaG17
namespace Go.Proofs.Ytibkemolmpcdcaa
open Go.RowKit

theorem unit_cmp {N D Q E : Int} (hD : 0 < D) (hN : Near N D Q E) (k : Nat) : (k < (E + 40).toNat → icmp ((10 : Int) ^ k * (10 : Int) ^ (18 : Int).toNat * D) ((N.natAbs : Int) * ((10 : Int) ^ 40 * 1)) ≤ 0) ∧ (k = (E + 40).toNat → ¬ icmp ((10 : Int) ^ k * (10 : Int) ^ (18 : Int).toNat * D) ((N.natAbs : Int) * ((10 : Int) ^ 40 * 1)) ≤ 0) := by
  obtain ⟨u1, u2⟩ := near_unit hN k
  have e1 : (10 : Int) ^ k * (10 : Int) ^ (18 : Int).toNat * D = ((10 ^ (k + 18) * D.natAbs : Nat) : Int) := by
    rw [Int.natCast_mul, show ((D.natAbs : Nat) : Int) = D by omega, show (18 : Int).toNat = 18 from rfl, p10i_add]
    simp
  have e2 : (N.natAbs : Int) * ((10 : Int) ^ 40 * 1) = ((N.natAbs * 10 ^ 40 : Nat) : Int) := by simp
  rw [e1, e2, icmp_le]
  exact ⟨fun h => Int.ofNat_le.2 (u1 h), fun h g => absurd (Int.ofNat_le.1 g) (Nat.not_le.2 (u2 h))⟩
theorem far_cmp {N D : Int} (hD : 0 < D) (far : 10 ^ 40 * D.natAbs < N.natAbs) : (0 < N → 0 < icmp (N * (10 : Int) ^ (-40 : Int).toNat) ((10 : Int) ^ (40 : Int).toNat * D)) ∧ (¬ 0 < N → ¬ 0 < icmp (N * (10 : Int) ^ (-40 : Int).toNat) ((10 : Int) ^ (40 : Int).toNat * D) ∧ icmp (N * (10 : Int) ^ (-40 : Int).toNat) (-((10 : Int) ^ (40 : Int).toNat) * D) < 0) := by
  have e1 : N * (10 : Int) ^ (-40 : Int).toNat = N := by rw [show (-40 : Int).toNat = 0 from rfl, Int.pow_zero, Int.mul_one]
  have e2 : (10 : Int) ^ (40 : Int).toNat * D = ((10 ^ 40 * D.natAbs : Nat) : Int) := by
    rw [Int.natCast_mul, show ((D.natAbs : Nat) : Int) = D by omega]
    simp
  rw [Int.neg_mul, e1, e2]
  generalize 10 ^ 40 * D.natAbs = U at *
  unfold icmp
  refine ⟨fun h => ?_, fun h => ⟨?_, ?_⟩⟩
  · rw [if_neg (by omega), if_neg (by omega)]; omega
  · rw [if_pos (by omega)]; omega
  · rw [if_pos (by omega)]; omega
theorem kept_set2 {w : World} {b p : Nat} {u v : Int} (h : C2 w p u v) (ne : b ≠ p) {x y : Int} : Kept b w ((w.setCell ⟨p, 0, none⟩ (.int .i64 x)).setCell ⟨p, 1, none⟩ (.int .i64 y)) := by
  refine ⟨(Below.heap_setCell _ ⟨p, 1, none⟩ _ b ne).trans (Below.heap_setCell _ ⟨p, 0, none⟩ _ b ne), fun k cs hk => ?_⟩
  have nk : k ≠ p := fun e => by
    subst e
    have c := h.c0
    unfold RW at hk
    simp [World.cell?, hk, ic] at c
  exact ((Below.heap_setCell _ ⟨p, 1, none⟩ _ k nk).trans (Below.heap_setCell _ ⟨p, 0, none⟩ _ k nk)).trans hk

theorem fr123 {a : Act} (hs : a.tmps.size = 123) (hd : a.defers = []) : a = { tmps := #[G a 0, G a 1, G a 2, G a 3, G a 4, G a 5, G a 6, G a 7, G a 8, G a 9, G a 10, G a 11, G a 12, G a 13, G a 14, G a 15, G a 16, G a 17, G a 18, G a 19, G a 20, G a 21, G a 22, G a 23, G a 24, G a 25, G a 26, G a 27, G a 28, G a 29, G a 30, G a 31, G a 32, G a 33, G a 34, G a 35, G a 36, G a 37, G a 38, G a 39, G a 40, G a 41, G a 42, G a 43, G a 44, G a 45, G a 46, G a 47, G a 48, G a 49, G a 50, G a 51, G a 52, G a 53, G a 54, G a 55, G a 56, G a 57, G a 58, G a 59, G a 60, G a 61, G a 62, G a 63, G a 64, G a 65, G a 66, G a 67, G a 68, G a 69, G a 70, G a 71, G a 72, G a 73, G a 74, G a 75, G a 76, G a 77, G a 78, G a 79, G a 80, G a 81, G a 82, G a 83, G a 84, G a 85, G a 86, G a 87, G a 88, G a 89, G a 90, G a 91, G a 92, G a 93, G a 94, G a 95, G a 96, G a 97, G a 98, G a 99, G a 100, G a 101, G a 102, G a 103, G a 104, G a 105, G a 106, G a 107, G a 108, G a 109, G a 110, G a 111, G a 112, G a 113, G a 114, G a 115, G a 116, G a 117, G a 118, G a 119, G a 120, G a 121, G a 122], defers := [] } := frame_is hs hd

set_option maxRecDepth 100000 in
set_option maxHeartbeats 4000000 in
theorem near_skip (c1 x1 c2 x2 op : Int) (w : World) (h : ¬ (Dm.wrongN c1 x1 = 0 ∧ Dm.wrongN c2 x2 = 0)) :
    Calls Try.prog 5 #[.agg #[.int .i64 c1, .int .i64 x1], .agg #[.int .i64 c2, .int .i64 x2], .int .i64 op] w fun e w' => e = .returned (.bool true) ∧ Below w.heap.size w w' := by
  obtain ⟨wB, hwB⟩ : ∃ wB, wB = ((w.alloc (.cells #[.int .i64 c1, .int .i64 x1] 23)).alloc (.cells #[.int .i64 c2, .int .i64 x2] 23)) := ⟨_, rfl⟩
  have NB : Below w.heap.size w wB := by rw [hwB]; exact below_step (below_new _ _) (below_new _ _)
  have a0 : C2 wB w.heap.size c1 x1 := by rw [hwB]; exact (C2.new w c1 x1).below (below_new _ _)
  have b0 : C2 wB (w.heap.size + 1) c2 x2 := by
    rw [hwB]
    have := C2.new (w.alloc (.cells #[.int .i64 c1, .int .i64 x1] 23)) c2 x2
    rwa [show (w.alloc (.cells #[.int .i64 c1, .int .i64 x1] 23)).heap.size = w.heap.size + 1 by simp] at this
  have AL := hide (alive_any ((w.alloc (.cells #[.int .i64 c1, .int .i64 x1] 23)).alloc (.cells #[.int .i64 c2, .int .i64 x2] 23)))
  go_enter Try.func5, Try.ntmps5
  go_wp2_with fail
  refine (unhide AL).mono ?_
  rw [← hwB]
  rintro e w1 ⟨rfl, hb⟩
  have B1 := below_step NB hb
  have a1 := a0.below hb
  have b1 := b0.below hb
  have WA := hide (wrong_any c1 x1 w1)
  clear hb a0 b0 NB AL hwB
  obtain ⟨pl, p0, p1, pf0, pf1⟩ := id a1
  obtain ⟨rl, r0, r1, rf0, rf1⟩ := id b1
  go_wp2_with fail
  refine (unhide WA).mono ?_
  rintro e w2 ⟨rfl, hb⟩
  have B2 := below_step B1 hb
  have a2 := a1.below hb
  have b2 := b1.below hb
  have WB := hide (wrong_any c2 x2 w2)
  clear hb WA a1 b1 B1
  clear pl p0 p1 pf0 pf1 rl r0 r1 rf0 rf1
  obtain ⟨pl, p0, p1, pf0, pf1⟩ := id a2
  obtain ⟨rl, r0, r1, rf0, rf1⟩ := id b2
  by_cases h1 : Dm.wrongN c1 x1 = 0
  · have g1 : (Dm.wrongN c1 x1 != 0) = false := by rw [h1]; rfl
    have g2 : (Dm.wrongN c2 x2 != 0) = true := by rw [bne_iff_ne]; exact fun q => h ⟨h1, q⟩
    clear h h1
    go_wp2_with fail
    refine (unhide WB).mono ?_
    rintro e w3 ⟨rfl, hb⟩
    have B3 := below_step B2 hb
    clear hb WB a2 b2 B2
    go_wp2
    go_ret
    exact ⟨rfl, B3⟩
  · have g1 : (Dm.wrongN c1 x1 != 0) = true := by rw [bne_iff_ne]; exact h1
    clear h h1 WB
    go_wp2
    go_ret
    exact ⟨rfl, B2⟩

set_option maxRecDepth 100000 in
set_option maxHeartbeats 4000000 in
theorem near_other (c1 x1 c2 x2 op : Int) (w : World) (h1 : Dm.wrongN c1 x1 = 0) (h2 : Dm.wrongN c2 x2 = 0) (a1' : -1000000000000000000 < c1) (a2' : c1 < 1000000000000000000) (a3' : -40 ≤ x1) (a4' : x1 ≤ 40) (b1' : -1000000000000000000 < c2) (b2' : c2 < 1000000000000000000) (b3' : -40 ≤ x2) (b4' : x2 ≤ 40)
    (ho : (op ≠ 0 ∧ op ≠ 1 ∧ op ≠ 2) ∨ (op = 2 ∧ c2 = 0)) :
    Calls Try.prog 5 #[.agg #[.int .i64 c1, .int .i64 x1], .agg #[.int .i64 c2, .int .i64 x2], .int .i64 op] w fun e w' => e = .returned (.bool true) ∧ Below w.heap.size w w' := by
  obtain ⟨wB, hwB⟩ : ∃ wB, wB = ((w.alloc (.cells #[.int .i64 c1, .int .i64 x1] 23)).alloc (.cells #[.int .i64 c2, .int .i64 x2] 23)) := ⟨_, rfl⟩
  have NB : Below w.heap.size w wB := by rw [hwB]; exact below_step (below_new _ _) (below_new _ _)
  have a0 : C2 wB w.heap.size c1 x1 := by rw [hwB]; exact (C2.new w c1 x1).below (below_new _ _)
  have b0 : C2 wB (w.heap.size + 1) c2 x2 := by
    rw [hwB]
    have := C2.new (w.alloc (.cells #[.int .i64 c1, .int .i64 x1] 23)) c2 x2
    rwa [show (w.alloc (.cells #[.int .i64 c1, .int .i64 x1] 23)).heap.size = w.heap.size + 1 by simp] at this
  have AL := hide (alive_any ((w.alloc (.cells #[.int .i64 c1, .int .i64 x1] 23)).alloc (.cells #[.int .i64 c2, .int .i64 x2] 23)))
  go_enter Try.func5, Try.ntmps5
  go_wp2_with fail
  refine (unhide AL).mono ?_
  rw [← hwB]
  rintro e w1 ⟨rfl, hb⟩
  have B1 := below_step NB hb
  have a1 := a0.below hb
  have b1 := b0.below hb
  have WA := hide (wrong_any c1 x1 w1)
  clear hb a0 b0 NB AL hwB
  obtain ⟨pl, p0, p1, pf0, pf1⟩ := id a1
  obtain ⟨rl, r0, r1, rf0, rf1⟩ := id b1
  go_wp2_with fail
  refine (unhide WA).mono ?_
  rintro e w2 ⟨rfl, hb⟩
  have B2 := below_step B1 hb
  have a2 := a1.below hb
  have b2 := b1.below hb
  have WB := hide (wrong_any c2 x2 w2)
  clear hb WA a1 b1 B1
  clear pl p0 p1 pf0 pf1 rl r0 r1 rf0 rf1
  obtain ⟨pl, p0, p1, pf0, pf1⟩ := id a2
  obtain ⟨rl, r0, r1, rf0, rf1⟩ := id b2
  have g1 : (Dm.wrongN c1 x1 != 0) = false := by rw [h1]; rfl
  have g2 : (Dm.wrongN c2 x2 != 0) = false := by rw [h2]; rfl
  have H1 := hide h1
  have H2 := hide h2
  clear h1 h2
  go_wp2_with fail
  refine (unhide WB).mono ?_
  rintro e w3 ⟨rfl, hb⟩
  have B3 := below_step B2 hb
  have a3 := a2.below hb
  have b3 := b2.below hb
  clear hb WB a2 b2 B2
  clear pl p0 p1 pf0 pf1 rl r0 r1 rf0 rf1
  obtain ⟨pl, p0, p1, pf0, pf1⟩ := id a3
  obtain ⟨rl, r0, r1, rf0, rf1⟩ := id b3
  go_upto_region 5 with fail
  refine frame_intro (fun a => G a 2 = .int .i64 op ∧ G a 3 = .pointer (some ⟨w.heap.size, 0, none⟩) ∧ G a 4 = .pointer (some ⟨w.heap.size + 1, 0, none⟩) ∧ a.tmps.size = 123 ∧ a.defers = []) ⟨rfl, rfl, rfl, rfl, rfl⟩ ?_
  rintro f0 ⟨s2, s3, s4, hsz, hdf⟩
  refine region_any (I := RP w3 f0 123 [24, 25, 26, 27, 28, 7, 8, 9] 99 (fun _ => True) [.lit (.agg #[.int .i64 c1, .int .i64 x1]), .ptr 1 (pR (c1 * (10 : Int) ^ x1.toNat) ((10 : Int) ^ (-x1).toNat)), .lit (.agg #[.int .i64 c2, .int .i64 x2]), .ptr 3 (pR (c2 * (10 : Int) ^ x2.toNat) ((10 : Int) ^ (-x2).toNat)), .new 4 2, .ptr 1 (pR (c1 * (10 : Int) ^ x1.toNat) ((10 : Int) ^ (-x1).toNat)), .ptr 3 (pR (c2 * (10 : Int) ^ x2.toNat) ((10 : Int) ^ (-x2).toNat)), .new 4 2]) (by kernel_rfl) ?wait ?step ?done ?start
  case wait => exact ⟨(by simp <;> rfl), (by simp <;> rfl), (by simp <;> rfl), (by simp <;> rfl), (by simp <;> rfl), (by simp <;> rfl), (by simp <;> rfl), (by simp <;> rfl), trivial⟩
  case start => exact RP.start hsz hdf ((Below.refl _ _).drew)
  case step =>
    refine ⟨?_, ?_, ?_, ?_, ?_, ?_, ?_, ?_, trivial⟩
    · rintro L fa wx h hcl hL hw2
      exact rp_val h (by decide) rfl rfl rfl (by decide) (by decide) rfl (run_ldD (eval_G ((h.keep (s := 3) (by decide)).trans s3)) (((h.old (h.nogi (by decide))).cell (p := ⟨w.heap.size, 0, none⟩) pl).trans p0) (((h.old (h.nogi (by decide))).cell (p := ⟨w.heap.size, 1, none⟩) pl).trans p1)) rfl
    · rintro L fa wx h hcl hL hw2
      exact rp_make h (by decide) rfl rfl rfl (by decide) (by decide) (h.nogi (by decide)) rfl (run_call1 (eval_G (show G fa 24 = .agg #[.int .i64 c1, .int .i64 x1] from h.lit (hw2 ⟨0, .data⟩ (by simp) rfl) rfl rfl)) callRatd) (ratd_make c1 x1 (by omega) (by omega) (by omega) (by omega) wx) rfl
    · rintro L fa wx h hcl hL hw2
      exact rp_val h (by decide) rfl rfl rfl (by decide) (by decide) rfl (run_ldD (eval_G ((h.keep (s := 4) (by decide)).trans s4)) (((h.old (h.nogi (by decide))).cell (p := ⟨w.heap.size + 1, 0, none⟩) rl).trans r0) (((h.old (h.nogi (by decide))).cell (p := ⟨w.heap.size + 1, 1, none⟩) rl).trans r1)) rfl
    · rintro L fa wx h hcl hL hw2
      exact rp_make h (by decide) rfl rfl rfl (by decide) (by decide) (h.nogi (by decide)) rfl (run_call1 (eval_G (show G fa 26 = .agg #[.int .i64 c2, .int .i64 x2] from h.lit (hw2 ⟨2, .data⟩ (by simp) rfl) rfl rfl)) callRatd) (ratd_make c2 x2 (by omega) (by omega) (by omega) (by omega) wx) rfl
    · rintro L fa wx h hcl hL hw2
      exact rp_new h (by decide) rfl rfl rfl (by decide) (by decide) (h.nogi (by decide)) rfl run_newR ZA.newR rfl
    · rintro L fa wx h hcl hL hw2
      exact rp_copy h (by decide) rfl rfl rfl (by decide) (by decide) (h.nogi (by decide)) rfl (hw2 ⟨1, .data⟩ (by simp) rfl) rfl (run_asg rfl) rfl
    · rintro L fa wx h hcl hL hw2
      exact rp_copy h (by decide) rfl rfl rfl (by decide) (by decide) (h.nogi (by decide)) rfl (hw2 ⟨3, .data⟩ (by simp) rfl) rfl (run_asg rfl) rfl
    · rintro L fa wx h hcl hL hw2
      exact rp_copy h (by decide) rfl rfl rfl (by decide) (by decide) (h.nogi (by decide)) rfl (hw2 ⟨4, .data⟩ (by simp) rfl) rfl (run_asg rfl) rfl
  case done =>
  rintro L f1 w4 h hall
  have hno : L 99 = false := h.nogi (by decide)
  obtain ⟨b7, o7, q7, i7⟩ := h.ptr (i := 5) hno (hall 5 (by simp)) rfl rfl
  obtain ⟨rfl, r7⟩ : o7 = 0 ∧ RV w4 b7 (c1 * (10 : Int) ^ x1.toNat) ((10 : Int) ^ (-x1).toNat) := i7
  obtain ⟨b8, o8, q8, i8⟩ := h.ptr (i := 6) hno (hall 6 (by simp)) rfl rfl
  obtain ⟨rfl, r8⟩ : o8 = 0 ∧ RV w4 b8 (c2 * (10 : Int) ^ x2.toNat) ((10 : Int) ^ (-x2).toNat) := i8
  obtain ⟨b9, q9, z9, l9⟩ := h.new (i := 7) hno (hall 7 (by simp)) rfl rfl
  have q2 := (h.keep (s := 2) (by decide)).trans s2
  have q3 := (h.keep (s := 3) (by decide)).trans s3
  have q4 := (h.keep (s := 4) (by decide)).trans s4
  have hb := h.old hno
  rw [fr123 h.size h.defs, q2, q3, q4, q7, q8, q9]
  have B4 := below_step B3 hb
  have a4 := a3.below hb
  have b4 := b3.below hb
  have s34 := hb.size
  have la3 := pl
  have lb3 := rl
  clear h hall q2 q3 q4 q7 q8 q9 hno hb a3 b3 B3
  clear pl p0 p1 pf0 pf1 rl r0 r1 rf0 rf1
  clear r7 r8 z9
  have N4 := below_new w4 (.cells #[.int .i64 0, .int .i64 0] 23)
  have B5 := below_step B4 N4
  have b5 := b4.below N4
  obtain ⟨rl, r0, r1, rf0, rf1⟩ := id b4
  clear a4 b4 B4 N4
  rcases ho with ⟨o0, o1, o2⟩ | ⟨rfl, rfl⟩
  · have g0 : (op == 0) = false := by rw [beq_eq_false_iff_ne]; exact o0
    have g3 : (op == 1) = false := by rw [beq_eq_false_iff_ne]; exact o1
    have g4 : (op == 2) = false := by rw [beq_eq_false_iff_ne]; exact o2
    clear o0 o1 o2
    go_wp2
    go_ret
    exact ⟨rfl, B5⟩
  · go_wp2
    go_ret
    exact ⟨rfl, B5⟩

set_option maxRecDepth 100000 in
set_option maxHeartbeats 8000000 in
theorem near_op0 (c1 x1 c2 x2 : Int) (w : World) (h1 : Dm.wrongN c1 x1 = 0) (h2 : Dm.wrongN c2 x2 = 0) (a1' : -1000000000000000000 < c1) (a2' : c1 < 1000000000000000000) (a3' : -40 ≤ x1) (a4' : x1 ≤ 40) (b1' : -1000000000000000000 < c2) (b2' : c2 < 1000000000000000000) (b3' : -40 ≤ x2) (b4' : x2 ≤ 40) :
    Calls Try.prog 5 #[.agg #[.int .i64 c1, .int .i64 x1], .agg #[.int .i64 c2, .int .i64 x2], .int .i64 0] w fun e w' => e = .returned (.bool true) ∧ Below w.heap.size w w' := by
  have lc1 : Ln c1 ≤ 2 := Ln_small (by omega)
  have lc2 : Ln c2 ≤ 2 := Ln_small (by omega)
  have t1 := Ln_ten x1.toNat
  have t2 := Ln_ten x2.toNat
  have t3 := Ln_ten (-x1).toNat
  have t4 := Ln_ten (-x2).toNat
  have t5 := Ln_mul c1 ((10 : Int) ^ x1.toNat)
  have t6 := Ln_mul c2 ((10 : Int) ^ x2.toNat)
  obtain ⟨Q, E, NR, DC⟩ := near_add c1 x1 c2 x2 h1 h2
  have hD : (0 : Int) < ((10 : Int) ^ (-x1).toNat) * ((10 : Int) ^ (-x2).toNat) := Int.mul_pos (Int.pow_pos (by decide)) (Int.pow_pos (by decide))
  have lN : Ln ((c1 * (10 : Int) ^ x1.toNat) * ((10 : Int) ^ (-x2).toNat) + (c2 * (10 : Int) ^ x2.toNat) * ((10 : Int) ^ (-x1).toNat)) ≤ 1000 := by
    have := Ln_add ((c1 * (10 : Int) ^ x1.toNat) * ((10 : Int) ^ (-x2).toNat)) ((c2 * (10 : Int) ^ x2.toNat) * ((10 : Int) ^ (-x1).toNat)); have := Ln_mul (c1 * (10 : Int) ^ x1.toNat) ((10 : Int) ^ (-x2).toNat); have := Ln_mul (c2 * (10 : Int) ^ x2.toNat) ((10 : Int) ^ (-x1).toNat); omega
  have lD : Ln (((10 : Int) ^ (-x1).toNat) * ((10 : Int) ^ (-x2).toNat)) ≤ 1000 := by have := Ln_mul ((10 : Int) ^ (-x1).toNat) ((10 : Int) ^ (-x2).toNat); omega
  have turn : Hid (∀ (wx : World) (b : Nat), RV wx b ((c1 * (10 : Int) ^ x1.toNat) * ((10 : Int) ^ (-x2).toNat) + (c2 * (10 : Int) ^ x2.toNat) * ((10 : Int) ^ (-x1).toNat)) (((10 : Int) ^ (-x1).toNat) * ((10 : Int) ^ (-x2).toNat)) → RV wx b ((c1 * (10 : Int) ^ x1.toNat) * ((10 : Int) ^ (-x2).toNat) + (c2 * (10 : Int) ^ x2.toNat) * ((10 : Int) ^ (-x1).toNat)) (((10 : Int) ^ (-x1).toNat) * ((10 : Int) ^ (-x2).toNat))) := hide fun wx b r => r
  obtain ⟨N, hN⟩ : ∃ N, (c1 * (10 : Int) ^ x1.toNat) * ((10 : Int) ^ (-x2).toNat) + (c2 * (10 : Int) ^ x2.toNat) * ((10 : Int) ^ (-x1).toNat) = N := ⟨_, rfl⟩
  obtain ⟨D, hDD⟩ : ∃ D, ((10 : Int) ^ (-x1).toNat) * ((10 : Int) ^ (-x2).toNat) = D := ⟨_, rfl⟩
  rw [hN] at NR lN
  rw [hDD] at NR lD hD
  have turn : Hid (∀ (wx : World) (b : Nat), RV wx b ((c1 * (10 : Int) ^ x1.toNat) * ((10 : Int) ^ (-x2).toNat) + (c2 * (10 : Int) ^ x2.toNat) * ((10 : Int) ^ (-x1).toNat)) (((10 : Int) ^ (-x1).toNat) * ((10 : Int) ^ (-x2).toNat)) → RV wx b N D) := hide fun wx b r => by rw [hN, hDD] at r; exact r
  clear hN hDD
  have DC' := hide DC
  have HNR := hide NR
  have HD := hide hD
  clear DC NR hD
  obtain ⟨wB, hwB⟩ : ∃ wB, wB = ((w.alloc (.cells #[.int .i64 c1, .int .i64 x1] 23)).alloc (.cells #[.int .i64 c2, .int .i64 x2] 23)) := ⟨_, rfl⟩
  have NB : Below w.heap.size w wB := by rw [hwB]; exact below_step (below_new _ _) (below_new _ _)
  have a0 : C2 wB w.heap.size c1 x1 := by rw [hwB]; exact (C2.new w c1 x1).below (below_new _ _)
  have b0 : C2 wB (w.heap.size + 1) c2 x2 := by
    rw [hwB]
    have := C2.new (w.alloc (.cells #[.int .i64 c1, .int .i64 x1] 23)) c2 x2
    rwa [show (w.alloc (.cells #[.int .i64 c1, .int .i64 x1] 23)).heap.size = w.heap.size + 1 by simp] at this
  have AL := hide (alive_any ((w.alloc (.cells #[.int .i64 c1, .int .i64 x1] 23)).alloc (.cells #[.int .i64 c2, .int .i64 x2] 23)))
  go_enter Try.func5, Try.ntmps5
  go_wp2_with fail
  refine (unhide AL).mono ?_
  rw [← hwB]
  rintro e w1 ⟨rfl, hb⟩
  have B1 := below_step NB hb
  have a1 := a0.below hb
  have b1 := b0.below hb
  have WA := hide (wrong_any c1 x1 w1)
  clear hb a0 b0 NB AL hwB
  obtain ⟨pl, p0, p1, pf0, pf1⟩ := id a1
  obtain ⟨rl, r0, r1, rf0, rf1⟩ := id b1
  go_wp2_with fail
  refine (unhide WA).mono ?_
  rintro e w2 ⟨rfl, hb⟩
  have B2 := below_step B1 hb
  have a2 := a1.below hb
  have b2 := b1.below hb
  have WB := hide (wrong_any c2 x2 w2)
  clear hb WA a1 b1 B1
  clear pl p0 p1 pf0 pf1 rl r0 r1 rf0 rf1
  obtain ⟨pl, p0, p1, pf0, pf1⟩ := id a2
  obtain ⟨rl, r0, r1, rf0, rf1⟩ := id b2
  have g1 : (Dm.wrongN c1 x1 != 0) = false := by rw [h1]; rfl
  have g2 : (Dm.wrongN c2 x2 != 0) = false := by rw [h2]; rfl
  have H1 := hide h1
  have H2 := hide h2
  clear h1 h2
  go_wp2_with fail
  refine (unhide WB).mono ?_
  rintro e w3 ⟨rfl, hb⟩
  have B3 := below_step B2 hb
  have a3 := a2.below hb
  have b3 := b2.below hb
  clear hb WB a2 b2 B2
  clear pl p0 p1 pf0 pf1 rl r0 r1 rf0 rf1
  obtain ⟨pl, p0, p1, pf0, pf1⟩ := id a3
  obtain ⟨rl, r0, r1, rf0, rf1⟩ := id b3
  go_upto_region 5 with fail
  refine frame_intro (fun a => G a 2 = .int .i64 0 ∧ G a 3 = .pointer (some ⟨w.heap.size, 0, none⟩) ∧ G a 4 = .pointer (some ⟨w.heap.size + 1, 0, none⟩) ∧ a.tmps.size = 123 ∧ a.defers = []) ⟨rfl, rfl, rfl, rfl, rfl⟩ ?_
  rintro f0 ⟨s2, s3, s4, hsz, hdf⟩
  refine region_any (I := RP w3 f0 123 [24, 25, 26, 27, 28, 7, 8, 9] 99 (fun _ => True) [.lit (.agg #[.int .i64 c1, .int .i64 x1]), .ptr 1 (pR (c1 * (10 : Int) ^ x1.toNat) ((10 : Int) ^ (-x1).toNat)), .lit (.agg #[.int .i64 c2, .int .i64 x2]), .ptr 3 (pR (c2 * (10 : Int) ^ x2.toNat) ((10 : Int) ^ (-x2).toNat)), .new 4 2, .ptr 1 (pR (c1 * (10 : Int) ^ x1.toNat) ((10 : Int) ^ (-x1).toNat)), .ptr 3 (pR (c2 * (10 : Int) ^ x2.toNat) ((10 : Int) ^ (-x2).toNat)), .new 4 2]) (by kernel_rfl) ?wait ?step ?done ?start
  case wait => exact ⟨(by simp <;> rfl), (by simp <;> rfl), (by simp <;> rfl), (by simp <;> rfl), (by simp <;> rfl), (by simp <;> rfl), (by simp <;> rfl), (by simp <;> rfl), trivial⟩
  case start => exact RP.start hsz hdf ((Below.refl _ _).drew)
  case step =>
    refine ⟨?_, ?_, ?_, ?_, ?_, ?_, ?_, ?_, trivial⟩
    · rintro L fa wx h hcl hL hw2
      exact rp_val h (by decide) rfl rfl rfl (by decide) (by decide) rfl (run_ldD (eval_G ((h.keep (s := 3) (by decide)).trans s3)) (((h.old (h.nogi (by decide))).cell (p := ⟨w.heap.size, 0, none⟩) pl).trans p0) (((h.old (h.nogi (by decide))).cell (p := ⟨w.heap.size, 1, none⟩) pl).trans p1)) rfl
    · rintro L fa wx h hcl hL hw2
      exact rp_make h (by decide) rfl rfl rfl (by decide) (by decide) (h.nogi (by decide)) rfl (run_call1 (eval_G (show G fa 24 = .agg #[.int .i64 c1, .int .i64 x1] from h.lit (hw2 ⟨0, .data⟩ (by simp) rfl) rfl rfl)) callRatd) (ratd_make c1 x1 (by omega) (by omega) (by omega) (by omega) wx) rfl
    · rintro L fa wx h hcl hL hw2
      exact rp_val h (by decide) rfl rfl rfl (by decide) (by decide) rfl (run_ldD (eval_G ((h.keep (s := 4) (by decide)).trans s4)) (((h.old (h.nogi (by decide))).cell (p := ⟨w.heap.size + 1, 0, none⟩) rl).trans r0) (((h.old (h.nogi (by decide))).cell (p := ⟨w.heap.size + 1, 1, none⟩) rl).trans r1)) rfl
    · rintro L fa wx h hcl hL hw2
      exact rp_make h (by decide) rfl rfl rfl (by decide) (by decide) (h.nogi (by decide)) rfl (run_call1 (eval_G (show G fa 26 = .agg #[.int .i64 c2, .int .i64 x2] from h.lit (hw2 ⟨2, .data⟩ (by simp) rfl) rfl rfl)) callRatd) (ratd_make c2 x2 (by omega) (by omega) (by omega) (by omega) wx) rfl
    · rintro L fa wx h hcl hL hw2
      exact rp_new h (by decide) rfl rfl rfl (by decide) (by decide) (h.nogi (by decide)) rfl run_newR ZA.newR rfl
    · rintro L fa wx h hcl hL hw2
      exact rp_copy h (by decide) rfl rfl rfl (by decide) (by decide) (h.nogi (by decide)) rfl (hw2 ⟨1, .data⟩ (by simp) rfl) rfl (run_asg rfl) rfl
    · rintro L fa wx h hcl hL hw2
      exact rp_copy h (by decide) rfl rfl rfl (by decide) (by decide) (h.nogi (by decide)) rfl (hw2 ⟨3, .data⟩ (by simp) rfl) rfl (run_asg rfl) rfl
    · rintro L fa wx h hcl hL hw2
      exact rp_copy h (by decide) rfl rfl rfl (by decide) (by decide) (h.nogi (by decide)) rfl (hw2 ⟨4, .data⟩ (by simp) rfl) rfl (run_asg rfl) rfl
  case done =>
  rintro L f1 w4 h hall
  have hno : L 99 = false := h.nogi (by decide)
  obtain ⟨b7, o7, q7, i7⟩ := h.ptr (i := 5) hno (hall 5 (by simp)) rfl rfl
  obtain ⟨rfl, r7⟩ : o7 = 0 ∧ RV w4 b7 (c1 * (10 : Int) ^ x1.toNat) ((10 : Int) ^ (-x1).toNat) := i7
  obtain ⟨b8, o8, q8, i8⟩ := h.ptr (i := 6) hno (hall 6 (by simp)) rfl rfl
  obtain ⟨rfl, r8⟩ : o8 = 0 ∧ RV w4 b8 (c2 * (10 : Int) ^ x2.toNat) ((10 : Int) ^ (-x2).toNat) := i8
  obtain ⟨b9, q9, z9, l9⟩ := h.new (i := 7) hno (hall 7 (by simp)) rfl rfl
  have q2 := (h.keep (s := 2) (by decide)).trans s2
  have q3 := (h.keep (s := 3) (by decide)).trans s3
  have q4 := (h.keep (s := 4) (by decide)).trans s4
  have hb := h.old hno
  rw [fr123 h.size h.defs, q2, q3, q4, q7, q8, q9]
  have B4 := below_step B3 hb
  have a4 := a3.below hb
  have b4 := b3.below hb
  have s34 := hb.size
  have la3 := pl
  have lb3 := rl
  clear h hall q2 q3 q4 q7 q8 q9 hno hb a3 b3 B3
  clear pl p0 p1 pf0 pf1 rl r0 r1 rf0 rf1
  have N4 := below_new w4 (.cells #[.int .i64 0, .int .i64 0] 23)
  have B5 := below_step B4 N4
  have a5 := a4.below N4
  have b5 := b4.below N4
  have c5 := C2.new w4 0 0
  have l7 := r7.place.low
  have l8 := r8.place.low
  have r7 := r7.below N4
  have r8 := r8.below N4
  have z5 := z9.below N4
  have lz9 := z9.low
  obtain ⟨pl, p0, p1, pf0, pf1⟩ := id a4
  obtain ⟨rl, r0, r1, rf0, rf1⟩ := id b4
  clear a4 b4 B4 N4 z9
  go_wp2_with fail
  refine (unhide DC' _).mono ?_
  unfold T3
  rintro e w6 ⟨rfl, hb⟩
  have B6 := below_step B5 hb
  have c6 := c5.below hb
  have r7 := r7.below hb
  have r8 := r8.below hb
  have z6 := z5.below hb
  have hs6 := hb.size
  clear pl p0 p1 pf0 pf1 rl r0 r1 rf0 rf1
  obtain ⟨ul, u0, u1, uf0, uf1⟩ := id c6
  clear hb a5 b5 c5 B5 z5 DC'
  obtain ⟨v1, hv1⟩ : ∃ v1, Dm.fC Q E = v1 := ⟨_, rfl⟩
  obtain ⟨v2, hv2⟩ : ∃ v2, Dm.fE Q E = v2 := ⟨_, rfl⟩
  obtain ⟨v3, hv3⟩ : ∃ v3, Dm.fR Q E = v3 := ⟨_, rfl⟩
  rw [hv1, hv2, hv3]
  have HV1 := hide hv1
  have HV2 := hide hv2
  have HV3 := hide hv3
  clear hv1 hv2 hv3
  have c7 := c6.set v1 v2
  have S67 := set2_below (w := w6) (p := w4.heap.size) (B := w4.heap.size) (.int .i64 v1) (.int .i64 v2) (Nat.le_refl _)
  have K67 : ∀ b, b ≠ w4.heap.size → Kept b w6 ((w6.setCell ⟨w4.heap.size, 0, none⟩ (.int .i64 v1)).setCell ⟨w4.heap.size, 1, none⟩ (.int .i64 v2)) := fun b hb => kept_set2 c6 hb
  have r7 := r7.kept (K67 b7 (by omega))
  have r8 := r8.kept (K67 b8 (by omega))
  have z7 := z6.kept (K67 b9 (by omega))
  have B7 := B6.trans (S67.mono (by omega))
  have OP := hide (radd_any b9 b7 b8 (c1 * (10 : Int) ^ x1.toNat) ((10 : Int) ^ (-x1).toNat) (c2 * (10 : Int) ^ x2.toNat) ((10 : Int) ^ (-x2).toNat) _ z7 r7 r8 (pow_ne _) (pow_ne _) (by omega) (by omega) (by omega) (by omega))
  have HZ7 := hide z7
  clear r7 r8 z6 z7 S67 K67 B6
  go_wp2_with fail
  refine (unhide OP).mono ?_
  rintro e w8 ⟨rfl, rz, kz⟩
  have RZ := unhide turn w8 b9 rz
  have c8 := c7.kept kz (unhide HZ7) (by omega)
  have B8 := B7.trans (kz.below (by have := B7.size; omega) B7.size)
  clear rz kz OP c6 c7 B7
  clear ul u0 u1 uf0 uf1
  obtain ⟨ul, u0, u1, uf0, uf1⟩ := id c8
  have lb9 := RZ.place.low
  by_cases h3 : v3 = 0
  · have NO := near_ok (unhide HD) (unhide HNR) ((unhide HV3).trans h3)
    rw [unhide HV1, unhide HV2] at NO
    obtain ⟨no1, no2, no3, no4⟩ := NO
    have HNO := hide no1
    clear HV3 no1
    subst h3
    have N8 := below_new w8 (.cells #[.bool false, .slice none 0 0, .bool false, .slice none 0 0] 43)
    have RR := hide (ratd_at v1 v2 (w8.alloc (.cells #[.bool false, .slice none 0 0, .bool false, .slice none 0 0] 43)) (w8.heap.size + 1) (by simp) (by omega) (by omega) (by omega) (by omega))
    have RZ9 := RZ.below N8
    have z8 := ZA.newR w8
    have B9 := below_step B8 N8
    have k1 : Ln v1 ≤ 2 := Ln_small (by omega)
    have k2 := Ln_ten v2.toNat
    have k3 := Ln_ten (-v2).toNat
    have k4 := Ln_mul v1 ((10 : Int) ^ v2.toNat)
    have k5 := Ln_mul (v1 * (10 : Int) ^ v2.toNat) D
    have k6 := Ln_mul N ((10 : Int) ^ (-v2).toNat)
    have k7 := Ln_add (v1 * (10 : Int) ^ v2.toNat * D) (-(N * (10 : Int) ^ (-v2).toNat))
    have k8 := Ln_neg (N * (10 : Int) ^ (-v2).toNat)
    have k9 := Ln_mul ((10 : Int) ^ (-v2).toNat) D
    clear c8 N8 B8 RZ
    go_wp2_with fail
    refine (unhide RR).mono ?_
    rintro e w9 ⟨rfl, rr, hb⟩
    have RZ9 := RZ9.below hb
    have B9 := below_step B9 hb
    have s9 := hb.size
    have SU := hide (rsub_any w8.heap.size (w8.heap.size + 1 + 1) b9 (v1 * (10 : Int) ^ v2.toNat) ((10 : Int) ^ (-v2).toNat) N D w9 (z8.below hb) rr RZ9 (pow_ne _) (by have := unhide HD; omega) (by omega) (by omega) (by omega) (by omega))
    have z9 := z8.below hb
    clear rr hb z8 RR
    clear ul u0 u1 uf0 uf1
    go_wp2_with fail
    refine (unhide SU).mono ?_
    rintro e w10 ⟨rfl, rd, kd⟩
    have RZ10 := RZ9.kept (Kept.blk' kd z9 RZ9.place.low (by omega))
    have B10 := B9.trans (kd.below (by omega) B9.size)
    have HDD : Hid (0 < (10 : Int) ^ (-v2).toNat * D) := hide (Int.mul_pos (Int.pow_pos (by decide)) (unhide HD))
    obtain ⟨M, hM⟩ : ∃ M, v1 * (10 : Int) ^ v2.toNat * D + -(N * (10 : Int) ^ (-v2).toNat) = M := ⟨_, rfl⟩
    rw [hM] at rd HNO k7
    have AB := hide (rabs_any w8.heap.size w8.heap.size M ((10 : Int) ^ (-v2).toNat * D) w10 rd.place rd (unhide HDD) (by omega) (by omega))
    have zd := rd.place
    have l10 := zd.low
    clear hM kd SU RZ9 B9 rd z9
    go_wp2_with fail
    refine (unhide AB).mono ?_
    rintro e w11 ⟨rfl, rd, kd⟩
    have RZ11 := RZ10.kept (Kept.blk' kd zd RZ10.place.low (by omega))
    have B11 := B10.trans (kd.below (by omega) B10.size)
    have AZ := hide (rabs_any b9 b9 N D w11 RZ11.place RZ11 (unhide HD) (by omega) (by omega))
    have zz := RZ11.place
    clear kd AB RZ10 RZ11 B10 zd
    go_wp2_with fail
    refine (unhide AZ).mono ?_
    rintro e w12 ⟨rfl, rz, kz⟩
    have rd12 := rd.kept (Kept.blk' kz zz rd.place.low (by omega))
    have B12 := B11.trans (kz.below (by omega) B11.size)
    have R2 := hide (rat2_any (-40) w12 (by omega) (by omega))
    have ld12 := rd12.place.low
    have lz12 := rz.place.low
    clear kz AZ rd B11 zz
    go_wp2_with fail
    refine (unhide R2).mono ?_
    rintro e w13 ⟨rfl, ru, hb⟩
    have HRU : Hid (RV w13 w12.heap.size ((10 : Int) ^ 0) ((10 : Int) ^ 40)) := hide ru
    have HRD := hide (rd12.below hb)
    have HRZ := hide (rz.below hb)
    have HB13 := hide (below_step B12 hb)
    have j1 : Ln ((M.natAbs : Nat) : Int) ≤ Ln M := Ln_mono (by simp)
    have j2 : Ln ((N.natAbs : Nat) : Int) ≤ Ln N := Ln_mono (by simp)
    have sw : w.heap.size ≤ w12.heap.size := B12.size
    have EB := (unhide HNR).hi
    have EL := (unhide HNR).lo
    clear ru rd12 rz hb R2 B12
    go_wp2_with fail
    go_loopg [] ((E + 40).toNat) (fun gk wr => ∃ k : Nat, gk + k = (E + 40).toNat ∧ Hid (RV wr w12.heap.size ((10 : Int) ^ k) ((10 : Int) ^ 40)) ∧ Hid (RV wr w8.heap.size (M.natAbs : Int) ((10 : Int) ^ (-v2).toNat * D)) ∧ Hid (RV wr b9 (N.natAbs : Int) D) ∧ Hid (Below w.heap.size w wr))
    case atStart => exact ⟨0, rfl, HRU, HRD, HRZ, HB13⟩
    case round =>
      obtain ⟨k, hk, HU, HM, HZ, HW⟩ := hrel
      clear HRU HRD HRZ HB13
      have i1 := Ln_ten k
      have i2 : Ln ((10 : Int) ^ 40) ≤ 41 := Ln_ten 40
      have i3 := Ln_ten (18 : Int).toNat
      have i4 := Ln_mul ((10 : Int) ^ k) ((10 : Int) ^ (18 : Int).toNat)
      have i5 : Ln ((10 : Int) ^ 40 * 1) ≤ 41 := by rw [Int.mul_one]; exact i2
      have nn : (18 : Int).toNat = 18 := rfl
      have lu := (unhide HU).place.low
      have N1 := below_new wr (.cells #[.bool false, .slice none 0 0, .bool false, .slice none 0 0] 43)
      have N2 := below_new (wr.alloc (.cells #[.bool false, .slice none 0 0, .bool false, .slice none 0 0] 43)) (.cells #[.bool false, .slice none 0 0, .bool false, .slice none 0 0] 43)
      have BB := below_step N1 N2
      have z1 := (ZA.newR wr).below N2
      have z2 : ZA ((wr.alloc (.cells #[.bool false, .slice none 0 0, .bool false, .slice none 0 0] 43)).alloc (.cells #[.bool false, .slice none 0 0, .bool false, .slice none 0 0] 43)) (wr.heap.size + 1) 2 := by
        have := ZA.newR (wr.alloc (.cells #[.bool false, .slice none 0 0, .bool false, .slice none 0 0] 43))
        rwa [show (wr.alloc (.cells #[.bool false, .slice none 0 0, .bool false, .slice none 0 0] 43)).heap.size = wr.heap.size + 1 by simp] at this
      have TT := hide (ten_at 18 ((wr.alloc (.cells #[.bool false, .slice none 0 0, .bool false, .slice none 0 0] 43)).alloc (.cells #[.bool false, .slice none 0 0, .bool false, .slice none 0 0] 43)) (wr.heap.size + 2) (by simp) (by omega) (by omega))
      have U1 := (unhide HU).below BB
      have M1 := (unhide HM).below BB
      have Z1 := (unhide HZ).below BB
      have X1 := below_step (unhide HW) BB
      have lM := (unhide HM).place.low
      have lZ := (unhide HZ).place.low
      have lW := (unhide HW).size
      clear HU HM HZ HW N1 N2 BB
      go_wp2_with fail
      refine (unhide TT).mono ?_
      rintro e y1 ⟨rfl, it, hb⟩
      have SI := hide (rsetInt_any (wr.heap.size + 1) (wr.heap.size + 2) 0 ((10 : Int) ^ (18 : Int).toNat) y1 (z2.below hb) it (by omega))
      have U2 := U1.below hb
      have M2 := M1.below hb
      have Z2 := Z1.below hb
      have X2 := below_step X1 hb
      have z1 := z1.below hb
      have z2 := z2.below hb
      clear it hb TT U1 M1 Z1 X1
      go_wp2_with fail
      refine (unhide SI).mono ?_
      rintro e y2 ⟨rfl, rt, kt⟩
      have U3 := U2.kept (Kept.blk' kt z2 U2.place.low (by omega))
      have M3 := M2.kept (Kept.blk' kt z2 M2.place.low (by omega))
      have Z3 := Z2.kept (Kept.blk' kt z2 Z2.place.low (by omega))
      have X3 := X2.trans (kt.below (by omega) X2.size)
      have z3 := z1.blk kt
      have MU := hide (rmul_any wr.heap.size w12.heap.size (wr.heap.size + 1) ((10 : Int) ^ k) ((10 : Int) ^ 40) ((10 : Int) ^ (18 : Int).toNat) 1 y2 z3 U3 rt (pow_ne _) (by omega) (by omega) (by omega) (by omega) (Nat.le_trans (Ln_small (x := 1) (by decide)) (by omega)))
      clear rt kt SI U2 M2 Z2 X2 z1 z2
      go_wp2_with fail
      refine (unhide MU).mono ?_
      rintro e y3 ⟨rfl, rm, km⟩
      have U4 := U3.kept (Kept.blk' km z3 U3.place.low (by omega))
      have M4 := M3.kept (Kept.blk' km z3 M3.place.low (by omega))
      have Z4 := Z3.kept (Kept.blk' km z3 Z3.place.low (by omega))
      have X4 := X3.trans (km.below (by omega) X3.size)
      have CM := hide (rcmp_any wr.heap.size b9 ((10 : Int) ^ k * (10 : Int) ^ (18 : Int).toNat) ((10 : Int) ^ 40 * 1) (N.natAbs : Int) D y3 rm Z4 (by rw [Int.mul_one]; exact Int.pow_pos (by decide)) (unhide HD) (by omega) (by omega) (by omega) (by omega))
      have hcc := unit_cmp (unhide HD) (unhide HNR) k
      obtain ⟨c, hc⟩ : ∃ c, icmp ((10 : Int) ^ k * (10 : Int) ^ (18 : Int).toNat * D) ((N.natAbs : Int) * ((10 : Int) ^ 40 * 1)) = c := ⟨_, rfl⟩
      rw [hc] at CM hcc
      clear hc rm km MU U3 M3 Z3 X3 z3
      go_wp2_with fail
      refine (unhide CM).mono ?_
      rintro e y4 ⟨rfl, hb⟩
      have U5 := U4.below hb
      have M5 := M4.below hb
      have Z5 := Z4.below hb
      have X5 := below_step X4 hb
      clear hb CM U4 M4 Z4 X4
      by_cases hg : gk = 0
      · have c0 : ¬ c ≤ 0 := by have := hcc.2 (by omega); omega
        have NR2 := hide (newRat_any 2 1 y4 (by omega) (by omega) (by omega) (by omega))
        have hkE : k = (E + 40).toNat := by omega
        have HU5 := hide U5
        have HM5 := hide M5
        have HX5 := hide X5
        have lU5 := U5.place.low
        have lM5 := M5.place.low
        clear hcc U5 M5 Z5 X5
        go_wp2_with fail
        refine (unhide NR2).mono ?_
        rintro e y5 ⟨rfl, r2, hb⟩
        have MD := hide (rmul_any w8.heap.size w8.heap.size y4.heap.size (M.natAbs : Int) ((10 : Int) ^ (-v2).toNat * D) 2 1 y5 ((unhide HM5).below hb).place ((unhide HM5).below hb) r2 (by have := unhide HDD; omega) (by omega) (by omega) (by omega) (Nat.le_trans (Ln_small (x := 2) (by decide)) (by omega)) (Nat.le_trans (Ln_small (x := 1) (by decide)) (by omega)))
        have U6 := (unhide HU5).below hb
        have zM := ((unhide HM5).below hb).place
        have X6 := below_step (unhide HX5) hb
        clear r2 hb NR2
        go_wp2_with fail
        refine (unhide MD).mono ?_
        rintro e y6 ⟨rfl, rm, km⟩
        have U7 := U6.kept (Kept.blk' km zM U6.place.low (by omega))
        have X7 := X6.trans (km.below (by omega) X6.size)
        have q1 := Ln_mul (M.natAbs : Int) 2
        have q2 : Ln 2 ≤ 2 := Ln_small (by decide)
        have q3 : Ln ((10 : Int) ^ (-v2).toNat * D * 1) ≤ 20000 := by rw [Int.mul_one]; omega
        have CF := hide (rcmp_any w8.heap.size w12.heap.size ((M.natAbs : Int) * 2) ((10 : Int) ^ (-v2).toNat * D * 1) ((10 : Int) ^ k) ((10 : Int) ^ 40) y6 rm U7 (by rw [Int.mul_one]; exact unhide HDD) (Int.pow_pos (by decide)) (by omega) q3 (by omega) (by omega))
        have cfin : icmp ((M.natAbs : Int) * 2 * (10 : Int) ^ 40) ((10 : Int) ^ k * ((10 : Int) ^ (-v2).toNat * D * 1)) ≤ 0 := by rw [hkE]; exact unhide HNO
        obtain ⟨c9, hc9⟩ : ∃ c9, icmp ((M.natAbs : Int) * 2 * (10 : Int) ^ 40) ((10 : Int) ^ k * ((10 : Int) ^ (-v2).toNat * D * 1)) = c9 := ⟨_, rfl⟩
        rw [hc9] at CF cfin
        clear hc9 rm km MD U6 X6 zM
        go_wp2_with fail
        refine (unhide CF).mono ?_
        rintro e y7 ⟨rfl, hb⟩
        have X8 := below_step X7 hb
        clear hb CF U7 X7
        go_wp2
        go_ret
        exact ⟨rfl, X8⟩
      · have c0 : c ≤ 0 := by have := hcc.1 (by omega); omega
        have NR2 := hide (newRat_any 10 1 y4 (by omega) (by omega) (by omega) (by omega))
        have HU5 := hide U5
        have HM5 := hide M5
        have HZ5 := hide Z5
        have HX5 := hide X5
        have lU5 := U5.place.low
        clear hcc U5 M5 Z5 X5
        go_wp2_with fail
        refine (unhide NR2).mono ?_
        rintro e y5 ⟨rfl, r2, hb⟩
        have MD := hide (rmul_any w12.heap.size w12.heap.size y4.heap.size ((10 : Int) ^ k) ((10 : Int) ^ 40) 10 1 y5 ((unhide HU5).below hb).place ((unhide HU5).below hb) r2 (pow_ne _) (by omega) (by omega) (by omega) (Nat.le_trans (Ln_small (x := 10) (by decide)) (by omega)) (Nat.le_trans (Ln_small (x := 1) (by decide)) (by omega)))
        have M6 := (unhide HM5).below hb
        have Z6 := (unhide HZ5).below hb
        have zU := ((unhide HU5).below hb).place
        have X6 := below_step (unhide HX5) hb
        clear r2 hb NR2
        go_wp2_with fail
        refine (unhide MD).mono ?_
        rintro e y6 ⟨rfl, rm, km⟩
        have HU7 : Hid (RV y6 w12.heap.size ((10 : Int) ^ (k + 1)) ((10 : Int) ^ 40)) := hide (by rw [Int.pow_succ, ← Int.mul_one ((10 : Int) ^ 40)]; exact rm)
        have HM7 := hide (M6.kept (Kept.blk' km zU M6.place.low (by omega)))
        have HZ7 := hide (Z6.kept (Kept.blk' km zU Z6.place.low (by omega)))
        have HX7 := hide (X6.trans (km.below (by omega) X6.size))
        clear rm km MD M6 Z6 X6 zU
        go_wp2
        go_roundg (gk - 1)
        case measure => omega
        case rel => exact ⟨k + 1, by omega, HU7, HM7, HZ7, HX7⟩
  · obtain ⟨h4, far⟩ := near_far (unhide HNR) (fun q => h3 ((unhide HV3).symm.trans q))
    have h5 : v3 = 4 := (unhide HV3).symm.trans h4
    clear HV3 h4 h3
    subst h5
    have hD := unhide HD
    have i1 : Ln ((10 : Int) ^ (40 : Int).toNat) ≤ 41 := Ln_ten 40
    have i2 : Ln ((10 : Int) ^ (-40 : Int).toNat) ≤ 1 := Ln_ten 0
    have R2 := hide (rat2_any 40 w8 (by omega) (by omega))
    have HRZ := hide RZ
    have HB8 := hide B8
    clear RZ B8 c8
    go_wp2_with fail
    refine (unhide R2).mono ?_
    rintro e w9 ⟨rfl, r4, hb⟩
    have CM := hide (rcmp_any b9 w8.heap.size N D ((10 : Int) ^ (40 : Int).toNat) ((10 : Int) ^ (-40 : Int).toNat) w9 ((unhide HRZ).below hb) r4 hD (Int.pow_pos (by decide)) (by omega) (by omega) (by omega) (by omega))
    have HRZ9 := hide ((unhide HRZ).below hb)
    have HB9 := hide (below_step (unhide HB8) hb)
    obtain ⟨f1', f2'⟩ := far_cmp hD far
    obtain ⟨c, hc⟩ : ∃ c, icmp (N * (10 : Int) ^ (-40 : Int).toNat) ((10 : Int) ^ (40 : Int).toNat * D) = c := ⟨_, rfl⟩
    rw [hc] at CM f1' f2'
    clear hc r4 hb R2 HRZ HB8
    go_wp2_with fail
    refine (unhide CM).mono ?_
    rintro e w10 ⟨rfl, hb⟩
    have HRZ10 := hide ((unhide HRZ9).below hb)
    have HB10 := hide (below_step (unhide HB9) hb)
    clear hb CM HRZ9 HB9
    by_cases hN : 0 < N
    · have c0 : 0 < c := by have := f1' (by omega); omega
      clear f1' f2' far
      go_wp2
      go_ret
      exact ⟨rfl, unhide HB10⟩
    · obtain ⟨c0', c1'⟩ := f2' (by omega)
      have c0 : ¬ 0 < c := by omega
      have N10 := below_new w10 (.cells #[.bool false, .slice none 0 0, .bool false, .slice none 0 0] 43)
      have R3 := hide (rat2_at 40 (w10.alloc (.cells #[.bool false, .slice none 0 0, .bool false, .slice none 0 0] 43)) (w10.heap.size + 1) (by simp) (by omega) (by omega))
      have RZ11 := (unhide HRZ10).below N10
      have B11 := below_step (unhide HB10) N10
      have z10 := ZA.newR w10
      have lz := (unhide HRZ10).place.low
      clear f1' f2' far N10 HRZ10 HB10
      go_wp2_with fail
      refine (unhide R3).mono ?_
      rintro e w11 ⟨rfl, r4, hb⟩
      have NG := hide (rneg_any w10.heap.size (w10.heap.size + 1) ((10 : Int) ^ (40 : Int).toNat) ((10 : Int) ^ (-40 : Int).toNat) w11 (z10.below hb) r4 (pow_ne _) (by omega) (by omega))
      have RZ12 := RZ11.below hb
      have B12 := below_step B11 hb
      have z11 := z10.below hb
      have s12 := B11.size
      clear r4 hb R3 RZ11 B11 z10
      go_wp2_with fail
      refine (unhide NG).mono ?_
      rintro e w12 ⟨rfl, rn, kn⟩
      have RZ13 := RZ12.kept (Kept.blk' kn z11 RZ12.place.low (by omega))
      have sw10 : w.heap.size ≤ w10.heap.size := by simp at s12; omega
      have B13 := B12.trans (kn.below sw10 B12.size)
      have C2' := hide (rcmp_any b9 w10.heap.size N D (-((10 : Int) ^ (40 : Int).toNat)) ((10 : Int) ^ (-40 : Int).toNat) w12 RZ13 rn hD (Int.pow_pos (by decide)) (by omega) (by omega) (by rw [Ln_neg]; omega) (by omega))
      obtain ⟨cc, hcc⟩ : ∃ cc, icmp (N * (10 : Int) ^ (-40 : Int).toNat) (-((10 : Int) ^ (40 : Int).toNat) * D) = cc := ⟨_, rfl⟩
      rw [hcc] at C2' c1'
      clear hcc rn kn NG RZ12 B12 z11 RZ13
      go_wp2_with fail
      refine (unhide C2').mono ?_
      rintro e w13 ⟨rfl, hb⟩
      have B14 := below_step B13 hb
      clear hb C2' B13
      go_wp2
      go_ret
      exact ⟨rfl, B14⟩

end Go.Proofs.Ytibkemolmpcdcaa
