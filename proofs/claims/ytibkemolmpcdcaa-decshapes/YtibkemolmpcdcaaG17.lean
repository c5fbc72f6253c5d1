/- Plain: what is cut. -/
import Derived.Test.YtibkemolmpcdcaaG13
import Derived.Test.YtibkemolmpcdcaaG16
import Derived.Test.YtibkemolmpcdcaaG14
import Derived.Test.YtibkemolmpcdcaaG10
import Derived.Test.YtibkemolmpcdcaaG15
import Derived.Deep.RegionHeld2
namespace Go.Proofs.Ytibkemolmpcdcaa

theorem f_shift {q y : Int} {s : Nat} (hl : (Dm.tens q s).natAbs ≤ 1000000000000000000) : (Dm.fC (Dm.tens q s) (y - s), Dm.fE (Dm.tens q s) (y - s), Dm.fR (Dm.tens q s) (y - s)) = (Dm.fC q y, Dm.fE q y, Dm.fR q y) := by
  have ha : (Dm.tens q s).natAbs = q.natAbs * 10 ^ s := by rw [Dm.tens_eq, Int.natAbs_mul, Int.natAbs_pow]; rfl
  by_cases h0 : q = 0
  · subst h0
    have e : Dm.tens 0 s = 0 := by rw [Dm.tens_eq, Int.zero_mul]
    rw [e]
    simp [Dm.fC, Dm.fE, Dm.fR]
  · have p := Dm.p10_pos s
    have lq : q.natAbs * 1 ≤ q.natAbs * 10 ^ s := Nat.mul_le_mul_left _ p
    obtain ⟨a, b⟩ := Dm.tz_of h0 (by omega)
    have e : Dm.tens q s = Dm.tens (Dm.tc q) (Dm.tz q + s) := by
      rw [← Dm.tens_add, ← a]
    obtain ⟨c, d⟩ := Dm.tz_at e b (by omega)
    have n0 : ¬ Dm.tens q s = 0 := fun g => by
      rw [g] at ha
      have : 0 < q.natAbs * 10 ^ s := Nat.mul_pos (by omega) p
      omega
    unfold Dm.fC Dm.fE Dm.fR
    rw [c, d]
    simp only [if_neg h0, if_neg n0]
    have g : y - (s : Int) + ((Dm.tz q + s : Nat) : Int) = y + (Dm.tz q : Int) := by omega
    rw [g]
theorem fit_small {N D q y : Int} (hD : 0 < D) (hq : q.natAbs < 1000000000000000000) (hy : -40 ≤ y) (h : N * (10 : Int) ^ (-y).toNat = q * (10 : Int) ^ y.toNat * D) : fitT N D = (Dm.fC q y, Dm.fE q y, Dm.fR q y) := by
  have l200 : q.natAbs < 10 ^ 200 := by
    have : 10 ^ 18 ≤ 10 ^ 200 := Dm.p10_le (by omega)
    rw [← e18] at this
    omega
  rw [fit_exact hD l200 h]
  have nd18 : Dm.nd q.natAbs ≤ 18 := by
    by_cases z : q.natAbs = 0
    · rw [z, Dm.nd_zero]; omega
    · obtain ⟨a, _, c, _⟩ := Dm.nd_spec (N := q.natAbs) (by omega) l200
      have : 10 ^ (Dm.nd q.natAbs - 1) < 10 ^ 18 := by rw [← e18]; omega
      have := Dm.p10_lt this
      omega
  obtain ⟨s, hs⟩ : ∃ s : Nat, y - Dm.nE q.natAbs y = (s : Int) := ⟨(y - Dm.nE q.natAbs y).toNat, by unfold Dm.nE; omega⟩
  have hE : Dm.nE q.natAbs y = y - (s : Int) := by omega
  have hz : Dm.nearZ q y false = Dm.tens q s := by
    unfold Dm.nearZ Dm.nQ Dm.sc
    rw [hs, if_pos (by omega), Int.toNat_natCast]
    exact Dm.sg_tens s 0 rfl
  rw [hz, hE]
  refine f_shift ?_
  have ha : (Dm.tens q s).natAbs = q.natAbs * 10 ^ s := by rw [Dm.tens_eq, Int.natAbs_mul, Int.natAbs_pow]; rfl
  rw [ha]
  by_cases z : q.natAbs = 0
  · rw [z]; omega
  · obtain ⟨a, _, _, d⟩ := Dm.nd_spec (N := q.natAbs) (by omega) l200
    have : q.natAbs * 10 ^ s < 10 ^ Dm.nd q.natAbs * 10 ^ s := Nat.mul_lt_mul_of_pos_right d (Dm.p10_pos s)
    rw [p10_add] at this
    have l : 10 ^ (Dm.nd q.natAbs + s) ≤ 10 ^ 18 := Dm.p10_le (by unfold Dm.nE at hs; omega)
    rw [← e18] at l
    omega
theorem told_self {c x : Int} (h : Dm.wrongN c x = 0) : (Dm.fC c x, Dm.fE c x, Dm.fR c x) = (c, x, 0) := by
  obtain ⟨a1, a2, a3, a4, a5⟩ := Dm.wrong_ok h
  by_cases h0 : c = 0
  · subst h0
    have hx : x = 0 := (a5 rfl).2
    subst hx
    simp [Dm.fC, Dm.fE, Dm.fR]
  · obtain ⟨t1, t2⟩ := Dm.tz_at (c := c) (m := c) (k := 0) rfl (fun g => h0 (a5 g).1) (by omega)
    unfold Dm.fC Dm.fE Dm.fR
    rw [t1, t2]
    simp only [if_neg h0]
    have g : ¬ 40 < x + ((0 : Nat) : Int) := by omega
    simp only [if_neg g]
    simp
theorem nr_exact (M : Int) {D : Int} (hD : 0 < D) : Dm.nr (M * D) D = M ∧ M * D / D = M := by
  have e1 : M * D / D = M := Int.mul_ediv_cancel M (by omega)
  have e2 : M * D % D = 0 := Int.mul_emod_left M D
  refine ⟨?_, e1⟩
  unfold Dm.nr
  rw [e1, e2, if_neg (by omega)]
/-- where nothing is dropped -/
theorem whole_ratio {c x p : Int} (hx : -p ≤ x) : c * (10 : Int) ^ x.toNat * (10 : Int) ^ p.toNat = c * (10 : Int) ^ (x + p).toNat * ((10 : Int) ^ (-x).toNat * (10 : Int) ^ (-p).toNat) := by
  simp only [Int.mul_assoc, p10i_add]
  congr 2
  omega
theorem whole_back {c x p : Int} (hx : -p ≤ x) : c * (10 : Int) ^ (x + p).toNat * (10 : Int) ^ (-p).toNat * (10 : Int) ^ (-x).toNat = c * (10 : Int) ^ x.toNat * (10 : Int) ^ (- -p).toNat := by
  simp only [Int.mul_assoc, p10i_add]
  congr 2
  omega
theorem same_told {c x p : Int} (h : Dm.wrongN c x = 0) (hx : -p ≤ x) : fitT (c * (10 : Int) ^ (x + p).toNat * (10 : Int) ^ (-p).toNat) ((10 : Int) ^ (- -p).toNat) = (c, x, 0) := by
  obtain ⟨a1, a2, a3, a4, a5⟩ := Dm.wrong_ok h
  rw [fit_small (q := c) (y := x) (Int.pow_pos (by decide)) (by omega) a3 (whole_back hx), told_self h]
theorem unit_told {q p : Int} (hq : q.natAbs < 1000000000000000000) (hp : p ≤ 40) : fitT (q * (10 : Int) ^ (-p).toNat) ((10 : Int) ^ (- -p).toNat) = (Dm.fC q (-p), Dm.fE q (-p), Dm.fR q (-p)) :=
  fit_small (q := q) (y := -p) (Int.pow_pos (by decide)) hq (by omega) rfl
theorem near_some {c x p : Int} : Dm.nr (c * (10 : Int) ^ x.toNat * (10 : Int) ^ p.toNat) ((10 : Int) ^ (-x).toNat * (10 : Int) ^ (-p).toNat) = Dm.sg (decide (c < 0)) (Dm.sc c.natAbs (x - -p) false) := by
  have e := rnd_sc (A := c.natAbs * 10 ^ x.toNat) (B := 10 ^ (-x).toNat) (S := c.natAbs) (x := x) (e := -p) (Dm.p10_pos _) rfl
  rw [show (- -p).toNat = p.toNat by congr 1; omega] at e
  rw [← e, ← Dm.nr_sg _ _ _ (Nat.mul_pos (Dm.p10_pos _) (Dm.p10_pos _))]
  have m : ∀ (b : Bool) (n k : Nat), Dm.sg b (n * k) = Dm.sg b n * (k : Int) := fun b n k => by
    unfold Dm.sg
    cases b
    · simp
    · simp [Int.neg_mul]
  rw [m, m, sg_self]
  simp
theorem near_lt {c x p : Int} (a1 : -1000000000000000000 < c) (a2 : c < 1000000000000000000) (hx : x < -p) : (Dm.sg (decide (c < 0)) (Dm.sc c.natAbs (x - -p) false)).natAbs < 1000000000000000000 := by
  rw [Dm.sg_abs]
  unfold Dm.sc
  rw [if_neg (by omega)]
  obtain ⟨k, hk⟩ : ∃ k, (-(x - -p)).toNat = k + 1 := ⟨(-(x - -p)).toNat - 1, by omega⟩
  rw [hk]
  have p1 := Dm.p10_pos k
  have hd : c.natAbs / 10 ^ (k + 1) ≤ c.natAbs / 10 := by
    rw [Nat.pow_succ, Nat.mul_comm, ← Nat.div_div_eq_div_mul]
    exact Nat.div_le_self _ _
  unfold Dm.rnd
  split <;> omega
theorem not_tens {c m : Int} {k : Nat} (hk : 1 ≤ k) (h : c.tmod 10 ≠ 0) : c ≠ Dm.tens m k := fun e => h (by
  obtain ⟨j, rfl⟩ : ∃ j, k = j + 1 := ⟨k - 1, by omega⟩
  rw [e, Dm.tens]
  exact Int.mul_tmod_left _ _)
theorem fl_is {c : Int} {k : Nat} (h0 : c ≠ 0) (hk : 1 ≤ k) (h : c.tmod 10 ≠ 0) : c / (10 : Int) ^ k = Dm.flW c k ∧ -(-c / (10 : Int) ^ k) = Dm.ceW c k := by
  obtain ⟨a, b, d⟩ := Dm.fl_spec h0 k
  have n1 := not_tens (m := Dm.ceW c k) hk h
  have n2 := not_tens (m := Dm.flW c k) hk h
  rw [Dm.tens_eq] at b d n1 n2
  have pp : (0 : Int) < (10 : Int) ^ k := Int.pow_pos (by decide)
  rw [a, Int.add_mul, Int.one_mul] at d n1
  generalize (10 : Int) ^ k = P at *
  generalize Dm.flW c k = f at *
  generalize hg : f * P = g at *
  have hg2 : P * f = g := by rw [Int.mul_comm]; exact hg
  obtain ⟨u, -⟩ := div_uniq (x := c) (y := P) (q := f) (r := c - g) (by omega) (by omega) (by omega) (by omega)
  obtain ⟨v, -⟩ := div_uniq (x := -c) (y := P) (q := -(f + 1)) (r := g + P - c) (by omega) (by rw [Int.mul_neg, Int.mul_add, Int.mul_one]; omega) (by omega) (by omega)
  refine ⟨u, ?_⟩
  rw [v, a]
  omega
end Go.Proofs.Ytibkemolmpcdcaa

/- Walks: towardsZero, Floor, Ceil. -/
namespace Go.Proofs.Ytibkemolmpcdcaa
open Go.RowKit

set_option maxHeartbeats 400000 in
theorem towards_any (c x : Int) (w : World) (h1 : -1000000000000000000 < c) (h2 : c < 1000000000000000000) (hx1 : -40 ≤ x) (hx2 : x < 0) :
    Calls Try.prog 50 #[.agg #[.int .i64 c, .int .i64 x]] w fun e w' => e = .returned (.int .i64 (Dm.tq c (-x).toNat)) ∧ Below w.heap.size w w' := by
  go_enter Try.func50, Try.ntmps50
  go_wp2
  go_loop [3, 9] (fun a i => ∃ (k : Nat) (v : Int), i = .int .i64 (k : Int) ∧ a = .int .i64 v ∧ (k : Int) ≤ -x ∧ Hid (v = Dm.tq c k) ∧ -1000000000000000000 < v ∧ v < 1000000000000000000) (fun _ i => (-x).toNat - (intOf i).toNat)
  case atStart => exact ⟨0, c, rfl, rfl, by omega, hide rfl, h1, h2⟩
  case round =>
    obtain ⟨k, v, rfl, rfl, hk, H, v1, v2⟩ := hrel
    by_cases hlt : (k : Int) < -x
    · have hb := Dm.tq_bd h1 h2 (k + 1)
      have H2 : Hid (v.tdiv 10 = Dm.tq c (k + 1)) := hide (by rw [unhide H]; rfl)
      have l1 : -1000000000000000000 < v.tdiv 10 := by rw [unhide H2]; exact hb.1
      have l2 : v.tdiv 10 < 1000000000000000000 := by rw [unhide H2]; exact hb.2
      clear hb
      go_wp2
      go_round
      case rel => exact ⟨k + 1, v.tdiv 10, by go_num, rfl, by omega, H2, l1, l2⟩
      case measure => simp [intOf]; omega
    · go_wp2
      go_ret
      exact ⟨ret_int (by rw [unhide H]; congr 1; omega), (Below.refl _ _).alloc (Nat.le_refl _) _⟩

theorem two_cells {w w3 : World} {c1 x1 : Int}
    (hb : Below ((w.alloc (.cells #[.int .i64 c1, .int .i64 x1] 23)).alloc (.cells #[.int .i64 0, .int .i64 0] 23)).heap.size
      ((w.alloc (.cells #[.int .i64 c1, .int .i64 x1] 23)).alloc (.cells #[.int .i64 0, .int .i64 0] 23)) w3) :
    w3.cell? ⟨w.heap.size, 0, none⟩ = some (.int .i64 c1) ∧ w3.cell? ⟨w.heap.size, 1, none⟩ = some (.int .i64 x1) ∧
    w3.cell? ⟨w.heap.size + 1, 0, none⟩ = some (.int .i64 0) ∧ w3.cell? ⟨w.heap.size + 1, 1, none⟩ = some (.int .i64 0) ∧ w3.frozen? ⟨w.heap.size + 1, 0, none⟩ = false ∧ w3.frozen? ⟨w.heap.size + 1, 1, none⟩ = false ∧ w.heap.size + 2 ≤ w3.heap.size ∧ Below w.heap.size w w3 := by
  obtain ⟨hc, hf⟩ := bcell hb
  have s := hb.size
  simp at s
  have hw : Below w.heap.size w ((w.alloc (.cells #[.int .i64 c1, .int .i64 x1] 23)).alloc (.cells #[.int .i64 0, .int .i64 0] 23)) :=
    ((Below.refl w.heap.size w).alloc (Nat.le_refl _) _).alloc (by simp) _
  refine ⟨?_, ?_, ?_, ?_, ?_, ?_, by omega, hw.trans (hb.mono (by simp; omega))⟩
  all_goals first | (rw [hc _ _ (by simp <;> omega)]; simp [go_sem]; done) | (rw [hf _ _ (by simp <;> omega)]; simp [go_sem]; done)

set_option maxHeartbeats 400000 in
theorem floor_pos (c x : Int) (w : World) (h : Dm.wrongN c x = 0) (hx : 0 ≤ x) :
    Calls Try.prog 18 #[.agg #[.int .i64 c, .int .i64 x]] w fun e w' => e = .returned (.tuple #[.agg #[.int .i64 c, .int .i64 x], .int .i64 0]) ∧ Below w.heap.size w w' := by
  have H := hide h
  clear h
  go_enter Try.func18, Try.ntmps18
  go_wp2_with fail
  refine (wrong_any c x _).mono ?_
  rintro e w1 ⟨rfl, hb⟩
  obtain ⟨t0, t1, t2, t3, f0, f1, hz, hbw⟩ := two_cells hb
  rw [unhide H]
  go_wp2
  exact bodyPost_ret (v := .tuple #[.agg #[.int .i64 c, .int .i64 x], .int .i64 0]) (by simp [results, Try.results18, go_sem, t2, t3]) rfl ⟨rfl, (hbw.setCell (by simp) _).setCell (by simp) _⟩

set_option maxHeartbeats 1000000 in
theorem floor_neg (c x : Int) (w : World) (h : Dm.wrongN c x = 0) (hx : x < 0) :
    Calls Try.prog 18 #[.agg #[.int .i64 c, .int .i64 x]] w fun e w' => e = .returned (.tuple #[.agg #[.int .i64 (Dm.fC (Dm.flW c (-x).toNat) 0), .int .i64 (Dm.fE (Dm.flW c (-x).toNat) 0)], .int .i64 (Dm.fR (Dm.flW c (-x).toNat) 0)]) ∧ Below w.heap.size w w' := by
  obtain ⟨p1, p2, p3, p4, _⟩ := Dm.wrong_ok h
  have H := hide h
  clear h
  have tb := Dm.tq_bd p1 p2 (-x).toNat
  go_enter Try.func18, Try.ntmps18
  go_wp2_with fail
  refine (wrong_any c x _).mono ?_
  rintro e w1 ⟨rfl, hb⟩
  obtain ⟨t0, t1, t2, t3, f0, f1, hz, hbw⟩ := two_cells hb
  rw [unhide H]
  go_wp2_with fail
  refine (towards_any c x _ p1 p2 p3 hx).mono ?_
  rintro e w2 ⟨rfl, hb2⟩
  have hb2 := hb.trans (hb2.mono hb.size)
  clear hb t0 t1 t2 t3 f0 f1 hz hbw
  obtain ⟨t0, t1, t2, t3, f0, f1, hz, hbw⟩ := two_cells hb2
  by_cases hs : c < 0
  · have E : Hid (Dm.flW c (-x).toNat = Dm.tq c (-x).toNat - 1) := hide (by unfold Dm.flW; rw [if_pos hs])
    generalize Dm.tq c (-x).toNat = v at *
    go_wp2_with fail
    refine (trimmed_any _ 0 _ (by omega) (by omega) (by omega) (by omega)).mono ?_
    rintro e w3 ⟨rfl, hb3⟩
    have hb3 := hb2.trans (hb3.mono hb2.size)
    clear hb2 t0 t1 t2 t3 f0 f1 hz hbw
    obtain ⟨t0, t1, t2, t3, f0, f1, hz, hbw⟩ := two_cells hb3
    rw [← unhide E]
    go_wp2
    exact bodyPost_ret (v := .tuple #[.agg #[.int .i64 (Dm.fC (Dm.flW c (-x).toNat) 0), .int .i64 (Dm.fE (Dm.flW c (-x).toNat) 0)], .int .i64 (Dm.fR (Dm.flW c (-x).toNat) 0)]) (by simp [results, Try.results18, go_sem, t2, t3]) rfl ⟨rfl, (hbw.setCell (by simp) _).setCell (by simp) _⟩
  · have E : Hid (Dm.flW c (-x).toNat = Dm.tq c (-x).toNat) := hide (by unfold Dm.flW; rw [if_neg hs])
    generalize Dm.tq c (-x).toNat = v at *
    go_wp2_with fail
    refine (trimmed_any _ 0 _ (by omega) (by omega) (by omega) (by omega)).mono ?_
    rintro e w3 ⟨rfl, hb3⟩
    have hb3 := hb2.trans (hb3.mono hb2.size)
    clear hb2 t0 t1 t2 t3 f0 f1 hz hbw
    obtain ⟨t0, t1, t2, t3, f0, f1, hz, hbw⟩ := two_cells hb3
    rw [← unhide E]
    go_wp2
    exact bodyPost_ret (v := .tuple #[.agg #[.int .i64 (Dm.fC (Dm.flW c (-x).toNat) 0), .int .i64 (Dm.fE (Dm.flW c (-x).toNat) 0)], .int .i64 (Dm.fR (Dm.flW c (-x).toNat) 0)]) (by simp [results, Try.results18, go_sem, t2, t3]) rfl ⟨rfl, (hbw.setCell (by simp) _).setCell (by simp) _⟩

set_option maxHeartbeats 400000 in
theorem ceil_pos (c x : Int) (w : World) (h : Dm.wrongN c x = 0) (hx : 0 ≤ x) :
    Calls Try.prog 19 #[.agg #[.int .i64 c, .int .i64 x]] w fun e w' => e = .returned (.tuple #[.agg #[.int .i64 c, .int .i64 x], .int .i64 0]) ∧ Below w.heap.size w w' := by
  have H := hide h
  clear h
  go_enter Try.func19, Try.ntmps19
  go_wp2_with fail
  refine (wrong_any c x _).mono ?_
  rintro e w1 ⟨rfl, hb⟩
  obtain ⟨t0, t1, t2, t3, f0, f1, hz, hbw⟩ := two_cells hb
  rw [unhide H]
  go_wp2
  exact bodyPost_ret (v := .tuple #[.agg #[.int .i64 c, .int .i64 x], .int .i64 0]) (by simp [results, Try.results19, go_sem, t2, t3]) rfl ⟨rfl, (hbw.setCell (by simp) _).setCell (by simp) _⟩

set_option maxHeartbeats 1000000 in
theorem ceil_neg (c x : Int) (w : World) (h : Dm.wrongN c x = 0) (hx : x < 0) :
    Calls Try.prog 19 #[.agg #[.int .i64 c, .int .i64 x]] w fun e w' => e = .returned (.tuple #[.agg #[.int .i64 (Dm.fC (Dm.ceW c (-x).toNat) 0), .int .i64 (Dm.fE (Dm.ceW c (-x).toNat) 0)], .int .i64 (Dm.fR (Dm.ceW c (-x).toNat) 0)]) ∧ Below w.heap.size w w' := by
  obtain ⟨p1, p2, p3, p4, _⟩ := Dm.wrong_ok h
  have H := hide h
  clear h
  have tb := Dm.tq_bd p1 p2 (-x).toNat
  go_enter Try.func19, Try.ntmps19
  go_wp2_with fail
  refine (wrong_any c x _).mono ?_
  rintro e w1 ⟨rfl, hb⟩
  obtain ⟨t0, t1, t2, t3, f0, f1, hz, hbw⟩ := two_cells hb
  rw [unhide H]
  go_wp2_with fail
  refine (towards_any c x _ p1 p2 p3 hx).mono ?_
  rintro e w2 ⟨rfl, hb2⟩
  have hb2 := hb.trans (hb2.mono hb.size)
  clear hb t0 t1 t2 t3 f0 f1 hz hbw
  obtain ⟨t0, t1, t2, t3, f0, f1, hz, hbw⟩ := two_cells hb2
  by_cases hs : 0 < c
  · have E : Hid (Dm.ceW c (-x).toNat = Dm.tq c (-x).toNat + 1) := hide (by unfold Dm.ceW; rw [if_pos hs])
    generalize Dm.tq c (-x).toNat = v at *
    go_wp2_with fail
    refine (trimmed_any _ 0 _ (by omega) (by omega) (by omega) (by omega)).mono ?_
    rintro e w3 ⟨rfl, hb3⟩
    have hb3 := hb2.trans (hb3.mono hb2.size)
    clear hb2 t0 t1 t2 t3 f0 f1 hz hbw
    obtain ⟨t0, t1, t2, t3, f0, f1, hz, hbw⟩ := two_cells hb3
    rw [← unhide E]
    go_wp2
    exact bodyPost_ret (v := .tuple #[.agg #[.int .i64 (Dm.fC (Dm.ceW c (-x).toNat) 0), .int .i64 (Dm.fE (Dm.ceW c (-x).toNat) 0)], .int .i64 (Dm.fR (Dm.ceW c (-x).toNat) 0)]) (by simp [results, Try.results19, go_sem, t2, t3]) rfl ⟨rfl, (hbw.setCell (by simp) _).setCell (by simp) _⟩
  · have E : Hid (Dm.ceW c (-x).toNat = Dm.tq c (-x).toNat) := hide (by unfold Dm.ceW; rw [if_neg hs])
    generalize Dm.tq c (-x).toNat = v at *
    go_wp2_with fail
    refine (trimmed_any _ 0 _ (by omega) (by omega) (by omega) (by omega)).mono ?_
    rintro e w3 ⟨rfl, hb3⟩
    have hb3 := hb2.trans (hb3.mono hb2.size)
    clear hb2 t0 t1 t2 t3 f0 f1 hz hbw
    obtain ⟨t0, t1, t2, t3, f0, f1, hz, hbw⟩ := two_cells hb3
    rw [← unhide E]
    go_wp2
    exact bodyPost_ret (v := .tuple #[.agg #[.int .i64 (Dm.fC (Dm.ceW c (-x).toNat) 0), .int .i64 (Dm.fE (Dm.ceW c (-x).toNat) 0)], .int .i64 (Dm.fR (Dm.ceW c (-x).toNat) 0)]) (by simp [results, Try.results19, go_sem, t2, t3]) rfl ⟨rfl, (hbw.setCell (by simp) _).setCell (by simp) _⟩

end Go.Proofs.Ytibkemolmpcdcaa

/- Walks: Round. -/
namespace Go.Proofs.Ytibkemolmpcdcaa
open Go.RowKit

set_option maxHeartbeats 400000 in
theorem round_far (c x p : Int) (w : World) (h : Dm.wrongN c x = 0) (hp : p < -40 ∨ 40 < p) :
    Calls Try.prog 16 #[.agg #[.int .i64 c, .int .i64 x], .int .i64 p] w fun e w' => e = .returned (.tuple #[.agg #[.int .i64 0, .int .i64 0], .int .i64 3]) ∧ Below w.heap.size w w' := by
  have H := hide h
  clear h
  rcases hp with g | g
  all_goals
    go_enter Try.func16, Try.ntmps16
    go_wp2_with fail
    refine (wrong_any c x _).mono ?_
    rintro e w1 ⟨rfl, hb⟩
    obtain ⟨t0, t1, t2, t3, f0, f1, hz, hbw⟩ := two_cells hb
    rw [unhide H]
    go_wp2
    exact bodyPost_ret (v := .tuple #[.agg #[.int .i64 0, .int .i64 0], .int .i64 3]) (by simp [results, Try.results16, go_sem, t2, t3]) rfl ⟨rfl, (hbw.setCell (by simp) _).setCell (by simp) _⟩

set_option maxHeartbeats 400000 in
theorem round_same (c x p : Int) (w : World) (h : Dm.wrongN c x = 0) (hp1 : -40 ≤ p) (hp2 : p ≤ 40) (hx : -p ≤ x) :
    Calls Try.prog 16 #[.agg #[.int .i64 c, .int .i64 x], .int .i64 p] w fun e w' => e = .returned (.tuple #[.agg #[.int .i64 c, .int .i64 x], .int .i64 0]) ∧ Below w.heap.size w w' := by
  have H := hide h
  clear h
  go_enter Try.func16, Try.ntmps16
  go_wp2_with fail
  refine (wrong_any c x _).mono ?_
  rintro e w1 ⟨rfl, hb⟩
  obtain ⟨t0, t1, t2, t3, f0, f1, hz, hbw⟩ := two_cells hb
  rw [unhide H]
  go_wp2
  exact bodyPost_ret (v := .tuple #[.agg #[.int .i64 c, .int .i64 x], .int .i64 0]) (by simp [results, Try.results16, go_sem, t2, t3]) rfl ⟨rfl, (hbw.setCell (by simp) _).setCell (by simp) _⟩

/-- behind the statement that makes Round's fraction -/
def RoundRel (c x : Int) (w : World) (v : Value) (wc : World) : Prop :=
  ∃ nb g : Nat, v = .pointer (some ⟨nb, 0, none⟩) ∧ Hid (DS wc g 0 18 (Dm.pd c.natAbs 18)) ∧
    wc.cell? ⟨nb, 0, none⟩ = some (.bool (decide (c < 0))) ∧ wc.cell? ⟨nb, 1, none⟩ = some (.slice (some ⟨g, 0, none⟩) 18 18) ∧ wc.cell? ⟨nb, 2, none⟩ = some (.int .i64 x) ∧ wc.cell? ⟨nb, 3, none⟩ = some (.bool false) ∧ nb < wc.heap.size ∧ w.heap.size + 1 < nb ∧
    wc.cell? ⟨w.heap.size + 1, 0, none⟩ = some (.int .i64 0) ∧ wc.cell? ⟨w.heap.size + 1, 1, none⟩ = some (.int .i64 0) ∧ wc.frozen? ⟨w.heap.size + 1, 0, none⟩ = false ∧ wc.frozen? ⟨w.heap.size + 1, 1, none⟩ = false ∧ w.heap.size + 2 ≤ wc.heap.size ∧ Below w.heap.size w wc

theorem keep4 {w1 : World} {nb h o : Nat} {v0 v1 v2 v3 x : Value} (hne : nb ≠ h) (hc : w1.cell? ⟨h, o, none⟩ = some x) :
    ((((w1.setCell ⟨nb, 0, none⟩ v0).setCell ⟨nb, 1, none⟩ v1).setCell ⟨nb, 2, none⟩ v2).setCell ⟨nb, 3, none⟩ v3).cell? ⟨h, o, none⟩ = some x := by
  have st : ∀ {wx : World} (j : Nat) (v : Value), wx.cell? ⟨h, o, none⟩ = some x → (wx.setCell ⟨nb, j, none⟩ v).cell? ⟨h, o, none⟩ = some x := fun {wx} j v hx =>
    (World.cell?_of_block (w := wx) (a := ⟨h, o, none⟩) (Below.heap_setCell wx ⟨nb, j, none⟩ v h (fun e => hne e.symm))).trans hx
  exact st 3 _ (st 2 _ (st 1 _ (st 0 _ hc)))

theorem keep2 {w1 : World} {nb h o : Nat} {v0 v1 x : Value} (hne : nb ≠ h) (hc : w1.cell? ⟨h, o, none⟩ = some x) :
    ((w1.setCell ⟨nb, 0, none⟩ v0).setCell ⟨nb, 1, none⟩ v1).cell? ⟨h, o, none⟩ = some x := by
  have st : ∀ {wx : World} (j : Nat) (v : Value), wx.cell? ⟨h, o, none⟩ = some x → (wx.setCell ⟨nb, j, none⟩ v).cell? ⟨h, o, none⟩ = some x := fun {wx} j v hx =>
    (World.cell?_of_block (w := wx) (a := ⟨h, o, none⟩) (Below.heap_setCell wx ⟨nb, j, none⟩ v h (fun e => hne e.symm))).trans hx
  exact st 1 _ (st 0 _ hc)

theorem fcarry {w1 w2 : World} {nb : Nat} {v0 v1 v2 v3 : Value} (hb : Below w1.heap.size w1 w2) (hl : nb < w1.heap.size)
    (a0 : w1.cell? ⟨nb, 0, none⟩ = some v0) (a1 : w1.cell? ⟨nb, 1, none⟩ = some v1) (a2 : w1.cell? ⟨nb, 2, none⟩ = some v2) (a3 : w1.cell? ⟨nb, 3, none⟩ = some v3)
    (b0 : w1.frozen? ⟨nb, 0, none⟩ = false) (b1 : w1.frozen? ⟨nb, 1, none⟩ = false) (b2 : w1.frozen? ⟨nb, 2, none⟩ = false) (b3 : w1.frozen? ⟨nb, 3, none⟩ = false) :
    w2.cell? ⟨nb, 0, none⟩ = some v0 ∧ w2.cell? ⟨nb, 1, none⟩ = some v1 ∧ w2.cell? ⟨nb, 2, none⟩ = some v2 ∧ w2.cell? ⟨nb, 3, none⟩ = some v3 ∧
    w2.frozen? ⟨nb, 0, none⟩ = false ∧ w2.frozen? ⟨nb, 1, none⟩ = false ∧ w2.frozen? ⟨nb, 2, none⟩ = false ∧ w2.frozen? ⟨nb, 3, none⟩ = false ∧ nb < w2.heap.size :=
  ⟨(hb.cell (p := ⟨nb, 0, none⟩) hl).trans a0, (hb.cell (p := ⟨nb, 1, none⟩) hl).trans a1, (hb.cell (p := ⟨nb, 2, none⟩) hl).trans a2, (hb.cell (p := ⟨nb, 3, none⟩) hl).trans a3,
   (hb.frozen (p := ⟨nb, 0, none⟩) hl).trans b0, (hb.frozen (p := ⟨nb, 1, none⟩) hl).trans b1, (hb.frozen (p := ⟨nb, 2, none⟩) hl).trans b2, (hb.frozen (p := ⟨nb, 3, none⟩) hl).trans b3, Nat.lt_of_lt_of_le hl hb.size⟩

theorem fcells0 {w1 w2 : World} (hb : Below (w1.alloc (.cells #[.bool false, .slice none 0 0, .int .i64 0, .bool false] 56)).heap.size (w1.alloc (.cells #[.bool false, .slice none 0 0, .int .i64 0, .bool false] 56)) w2) :
    w2.cell? ⟨w1.heap.size, 0, none⟩ = some (.bool false) ∧ w2.cell? ⟨w1.heap.size, 1, none⟩ = some (.slice none 0 0) ∧ w2.cell? ⟨w1.heap.size, 2, none⟩ = some (.int .i64 0) ∧ w2.cell? ⟨w1.heap.size, 3, none⟩ = some (.bool false) ∧
    w2.frozen? ⟨w1.heap.size, 0, none⟩ = false ∧ w2.frozen? ⟨w1.heap.size, 1, none⟩ = false ∧ w2.frozen? ⟨w1.heap.size, 2, none⟩ = false ∧ w2.frozen? ⟨w1.heap.size, 3, none⟩ = false ∧ w1.heap.size < w2.heap.size :=
  fcarry hb (by simp) (by simp [go_sem]) (by simp [go_sem]) (by simp [go_sem]) (by simp [go_sem]) (by simp [go_sem]) (by simp [go_sem]) (by simp [go_sem]) (by simp [go_sem])

theorem fcells {w1 w2 : World} (hb : Below (w1.alloc (.cells #[.bool false, .slice none 0 0, .int .i64 0, .bool false] 56)).drew.heap.size (w1.alloc (.cells #[.bool false, .slice none 0 0, .int .i64 0, .bool false] 56)).drew w2) :
    w2.cell? ⟨w1.heap.size, 0, none⟩ = some (.bool false) ∧ w2.cell? ⟨w1.heap.size, 1, none⟩ = some (.slice none 0 0) ∧ w2.cell? ⟨w1.heap.size, 2, none⟩ = some (.int .i64 0) ∧ w2.cell? ⟨w1.heap.size, 3, none⟩ = some (.bool false) ∧
    w2.frozen? ⟨w1.heap.size, 0, none⟩ = false ∧ w2.frozen? ⟨w1.heap.size, 1, none⟩ = false ∧ w2.frozen? ⟨w1.heap.size, 2, none⟩ = false ∧ w2.frozen? ⟨w1.heap.size, 3, none⟩ = false ∧ w1.heap.size < w2.heap.size :=
  fcarry hb (by simp) (by simp [go_sem]) (by simp [go_sem]) (by simp [go_sem]) (by simp [go_sem]) (by simp [go_sem]) (by simp [go_sem]) (by simp [go_sem]) (by simp [go_sem])

theorem round_relA {c x : Int} {w w3 : World} {g : Nat} (hD : DS w3 g 0 18 (Dm.pd c.natAbs 18)) (u2 : w3.cell? ⟨w.heap.size + 1, 0, none⟩ = some (.int .i64 0)) (u3 : w3.cell? ⟨w.heap.size + 1, 1, none⟩ = some (.int .i64 0)) (k0 : w3.frozen? ⟨w.heap.size + 1, 0, none⟩ = false) (k1 : w3.frozen? ⟨w.heap.size + 1, 1, none⟩ = false)
    (kz : w.heap.size + 2 ≤ w3.heap.size) (hbu : Below w.heap.size w w3) {B : Bool} (hB : decide (c < 0) = B) :
    RoundRel c x w (.pointer (some ⟨w3.heap.size, 0, none⟩)) (w3.alloc (.cells #[.bool B, .slice (some ⟨g, 0, none⟩) 18 18, .int .i64 x, .bool false] 56)) := by
  have hb : Below w3.heap.size w3 (w3.alloc (.cells #[.bool B, .slice (some ⟨g, 0, none⟩) 18 18, .int .i64 x, .bool false] 56)) := (Below.refl _ _).alloc (Nat.le_refl _) _
  have l : w.heap.size + 1 < w3.heap.size := by omega
  refine ⟨w3.heap.size, g, rfl, hide (hD.below hb), by rw [hB]; simp [go_sem], by simp [go_sem], by simp [go_sem], by simp [go_sem], by simp, l, (hb.cell (p := ⟨w.heap.size + 1, 0, none⟩) l).trans u2, (hb.cell (p := ⟨w.heap.size + 1, 1, none⟩) l).trans u3, (hb.frozen (p := ⟨w.heap.size + 1, 0, none⟩) l).trans k0, (hb.frozen (p := ⟨w.heap.size + 1, 1, none⟩) l).trans k1, by simp; omega, hbu.trans (hb.mono hbu.size)⟩

theorem round_relB {c x : Int} {w w3 : World} {g nb : Nat} (hD : DS w3 g 0 18 (Dm.pd c.natAbs 18)) (u2 : w3.cell? ⟨w.heap.size + 1, 0, none⟩ = some (.int .i64 0)) (u3 : w3.cell? ⟨w.heap.size + 1, 1, none⟩ = some (.int .i64 0)) (k0 : w3.frozen? ⟨w.heap.size + 1, 0, none⟩ = false) (k1 : w3.frozen? ⟨w.heap.size + 1, 1, none⟩ = false)
    (kz : w.heap.size + 2 ≤ w3.heap.size) (hbu : Below w.heap.size w w3) {B : Bool} (hB : decide (c < 0) = B) (hn1 : w.heap.size + 1 < nb) (hn2 : nb < w3.heap.size) (hng : nb ≠ g) {v0 v1 v2 v3 : Value}
    (a0 : w3.cell? ⟨nb, 0, none⟩ = some v0) (a1 : w3.cell? ⟨nb, 1, none⟩ = some v1) (a2 : w3.cell? ⟨nb, 2, none⟩ = some v2) (a3 : w3.cell? ⟨nb, 3, none⟩ = some v3) :
    RoundRel c x w (.pointer (some ⟨nb, 0, none⟩)) ((((w3.setCell ⟨nb, 0, none⟩ (.bool B)).setCell ⟨nb, 1, none⟩ (.slice (some ⟨g, 0, none⟩) 18 18)).setCell ⟨nb, 2, none⟩ (.int .i64 x)).setCell ⟨nb, 3, none⟩ (.bool false)) := by
  have fr : ∀ {wx : World} (j : Nat) (v : Value) (o : Nat), (wx.setCell ⟨nb, j, none⟩ v).frozen? ⟨w.heap.size + 1, o, none⟩ = wx.frozen? ⟨w.heap.size + 1, o, none⟩ := fun {wx} j v o =>
    World.frozen?_of_block (w := wx) (a := ⟨w.heap.size + 1, o, none⟩) (Below.heap_setCell wx ⟨nb, j, none⟩ v (w.heap.size + 1) (fun e => by simp at e; omega))
  have sz : ∀ {wx : World} (j : Nat) (v : Value), (wx.setCell ⟨nb, j, none⟩ v).heap.size = wx.heap.size := fun {wx} j v => by simp [World.setCell]
  refine ⟨nb, g, rfl, hide ((((hD.setCell (a := ⟨nb, 0, none⟩) hng _).setCell (a := ⟨nb, 1, none⟩) hng _).setCell (a := ⟨nb, 2, none⟩) hng _).setCell (a := ⟨nb, 3, none⟩) hng _), ?_, ?_, ?_, ?_, ?_, hn1, keep4 (by omega) u2, keep4 (by omega) u3, ?_, ?_, ?_, ?_⟩
  · rw [hB]; simp [go_sem, a0]
  · simp [go_sem, a1]
  · simp [go_sem, a2]
  · simp [go_sem, a3]
  · rw [sz, sz, sz, sz]; exact hn2
  · rw [fr, fr, fr, fr]; exact k0
  · rw [fr, fr, fr, fr]; exact k1
  · rw [sz, sz, sz, sz]; exact kz
  · exact (((hbu.setCell (by simp; omega) _).setCell (by simp; omega) _).setCell (by simp; omega) _).setCell (by simp; omega) _

theorem round_cells {wc w1 : World} {h nb : Nat} {v0 v1 v2 v3 r0 r1 : Value} (hb : Below wc.drew.heap.size wc.drew w1) (hsz : h + 2 ≤ wc.heap.size) (hnb : nb < wc.heap.size)
    (c0 : wc.cell? ⟨nb, 0, none⟩ = some v0) (c1 : wc.cell? ⟨nb, 1, none⟩ = some v1) (c2 : wc.cell? ⟨nb, 2, none⟩ = some v2) (c3 : wc.cell? ⟨nb, 3, none⟩ = some v3)
    (d0 : wc.cell? ⟨h + 1, 0, none⟩ = some r0) (d1 : wc.cell? ⟨h + 1, 1, none⟩ = some r1) (f0 : wc.frozen? ⟨h + 1, 0, none⟩ = false) (f1 : wc.frozen? ⟨h + 1, 1, none⟩ = false) :
    w1.cell? ⟨nb, 0, none⟩ = some v0 ∧ w1.cell? ⟨nb, 1, none⟩ = some v1 ∧ w1.cell? ⟨nb, 2, none⟩ = some v2 ∧ w1.cell? ⟨nb, 3, none⟩ = some v3 ∧
    w1.cell? ⟨h + 1, 0, none⟩ = some r0 ∧ w1.cell? ⟨h + 1, 1, none⟩ = some r1 ∧ w1.frozen? ⟨h + 1, 0, none⟩ = false ∧ w1.frozen? ⟨h + 1, 1, none⟩ = false ∧ h + 2 ≤ w1.heap.size ∧ nb < w1.heap.size := by
  have e : wc.drew.heap.size = wc.heap.size := rfl
  have l : h + 1 < wc.drew.heap.size := by omega
  have m : nb < wc.drew.heap.size := by omega
  have s := hb.size
  exact ⟨(hb.cell (p := ⟨nb, 0, none⟩) m).trans c0, (hb.cell (p := ⟨nb, 1, none⟩) m).trans c1, (hb.cell (p := ⟨nb, 2, none⟩) m).trans c2, (hb.cell (p := ⟨nb, 3, none⟩) m).trans c3,
    (hb.cell (p := ⟨h + 1, 0, none⟩) l).trans d0, (hb.cell (p := ⟨h + 1, 1, none⟩) l).trans d1, (hb.frozen (p := ⟨h + 1, 0, none⟩) l).trans f0, (hb.frozen (p := ⟨h + 1, 1, none⟩) l).trans f1, by omega, by omega⟩

theorem round_cells0 {wc w1 : World} {h nb : Nat} {v0 v1 v2 v3 r0 r1 : Value} (hb : Below wc.heap.size wc w1) (hsz : h + 2 ≤ wc.heap.size) (hnb : nb < wc.heap.size)
    (c0 : wc.cell? ⟨nb, 0, none⟩ = some v0) (c1 : wc.cell? ⟨nb, 1, none⟩ = some v1) (c2 : wc.cell? ⟨nb, 2, none⟩ = some v2) (c3 : wc.cell? ⟨nb, 3, none⟩ = some v3)
    (d0 : wc.cell? ⟨h + 1, 0, none⟩ = some r0) (d1 : wc.cell? ⟨h + 1, 1, none⟩ = some r1) (f0 : wc.frozen? ⟨h + 1, 0, none⟩ = false) (f1 : wc.frozen? ⟨h + 1, 1, none⟩ = false) :
    w1.cell? ⟨nb, 0, none⟩ = some v0 ∧ w1.cell? ⟨nb, 1, none⟩ = some v1 ∧ w1.cell? ⟨nb, 2, none⟩ = some v2 ∧ w1.cell? ⟨nb, 3, none⟩ = some v3 ∧
    w1.cell? ⟨h + 1, 0, none⟩ = some r0 ∧ w1.cell? ⟨h + 1, 1, none⟩ = some r1 ∧ w1.frozen? ⟨h + 1, 0, none⟩ = false ∧ w1.frozen? ⟨h + 1, 1, none⟩ = false ∧ h + 2 ≤ w1.heap.size ∧ nb < w1.heap.size := by
  have l : h + 1 < wc.heap.size := by omega
  have m : nb < wc.heap.size := by omega
  have s := hb.size
  exact ⟨(hb.cell (p := ⟨nb, 0, none⟩) m).trans c0, (hb.cell (p := ⟨nb, 1, none⟩) m).trans c1, (hb.cell (p := ⟨nb, 2, none⟩) m).trans c2, (hb.cell (p := ⟨nb, 3, none⟩) m).trans c3,
    (hb.cell (p := ⟨h + 1, 0, none⟩) l).trans d0, (hb.cell (p := ⟨h + 1, 1, none⟩) l).trans d1, (hb.frozen (p := ⟨h + 1, 0, none⟩) l).trans f0, (hb.frozen (p := ⟨h + 1, 1, none⟩) l).trans f1, by omega, by omega⟩

set_option maxHeartbeats 1000000 in
theorem round_some (c x p : Int) (w : World) (h : Dm.wrongN c x = 0) (hp1 : -40 ≤ p) (hp2 : p ≤ 40) (hx : x < -p) :
    Calls Try.prog 16 #[.agg #[.int .i64 c, .int .i64 x], .int .i64 p] w fun e w' => e = .returned (.tuple #[.agg #[.int .i64 (Dm.fC (Dm.sg (decide (c < 0)) (Dm.sc c.natAbs (x - -p) false)) (-p)), .int .i64 (Dm.fE (Dm.sg (decide (c < 0)) (Dm.sc c.natAbs (x - -p) false)) (-p))], .int .i64 (Dm.fR (Dm.sg (decide (c < 0)) (Dm.sc c.natAbs (x - -p) false)) (-p))]) ∧ Below w.heap.size w w' := by
  obtain ⟨p1, p2, p3, p4, _⟩ := Dm.wrong_ok h
  have H := hide h
  clear h
  go_enter Try.func16, Try.ntmps16
  go_wp2_with fail
  refine (wrong_any c x _).mono ?_
  rintro e w1 ⟨rfl, hb⟩
  obtain ⟨t0, t1, t2, t3, f0, f1, hz, hbw⟩ := two_cells hb
  rw [unhide H]
  have l1 : w.heap.size < w1.heap.size := by omega
  have l2 : w.heap.size + 1 < w1.heap.size := by omega
  go_upto_region 8 with fail
  go_cut [7] from 27 (fun v wc => RoundRel c x w v wc)
  case first =>
    generalize hB : decide (c < 0) = B
    go_region_held2 (fun w' => w'.cell? ⟨w.heap.size, 0, none⟩ = some (.int .i64 c) ∧ w'.cell? ⟨w.heap.size, 1, none⟩ = some (.int .i64 x)) (first | go_keep | exact ⟨keep4 (by omega) (by assumption), keep4 (by omega) (by assumption)⟩) (first
      | (go_at_call 44; refine (size_any c x _ p1 p2).mono ?_; rintro e w2 ⟨rfl, hs2⟩; first | (have hb2 := hb.drew.trans (hs2.mono hb.size); clear hs2; obtain ⟨t0', t1', t2', t3', f0', f1', hz', hbw'⟩ := two_cells hb2; have l1' : w.heap.size < w2.heap.size := Nat.lt_of_lt_of_le (Nat.lt_add_of_pos_right (by decide)) hz'; have l2' : w.heap.size + 1 < w2.heap.size := hz') | (have hb2 := (hb.alloc hb.size _).drew.trans (hs2.mono (Nat.le_trans hb.size (by simp))); obtain ⟨a0, a1, a2, a3, b0, b1, b2, b3, al⟩ := fcells hs2; clear hs2; obtain ⟨t0', t1', t2', t3', f0', f1', hz', hbw'⟩ := two_cells hb2; have l1' : w.heap.size < w2.heap.size := Nat.lt_of_lt_of_le (Nat.lt_add_of_pos_right (by decide)) hz'; have l2' : w.heap.size + 1 < w2.heap.size := hz'))
      | (go_at_call 43; refine (padded_any c.natAbs 18 _ (by omega) (by omega)).mono ?_; rintro e w3 ⟨rfl, hown, hs3⟩; first | (have hb3 := hb2.trans (hs3.mono hb2.size); obtain ⟨a0', a1', a2', a3', b0', b1', b2', b3', al'⟩ := fcarry hs3 al a0 a1 a2 a3 b0 b1 b2 b3; clear hs3; obtain ⟨u0, u1, u2, u3, k0, k1, kz, hbu⟩ := two_cells hb3; have l1'' : w.heap.size < w3.heap.size := Nat.lt_of_lt_of_le (Nat.lt_add_of_pos_right (by decide)) kz; have l2'' : w.heap.size + 1 < w3.heap.size := kz) | (have hb3 := hb2.trans (hs3.mono hb2.size); clear hs3; obtain ⟨u0, u1, u2, u3, k0, k1, kz, hbu⟩ := two_cells hb3; have l1'' : w.heap.size < w3.heap.size := Nat.lt_of_lt_of_le (Nat.lt_add_of_pos_right (by decide)) kz; have l2'' : w.heap.size + 1 < w3.heap.size := kz) | (have hb3 := (hb2.alloc hb2.size _).trans (hs3.mono (Nat.le_trans hb2.size (by simp))); obtain ⟨a0, a1, a2, a3, b0, b1, b2, b3, al⟩ := fcells0 hs3; clear hs3; obtain ⟨u0, u1, u2, u3, k0, k1, kz, hbu⟩ := two_cells hb3; have l1'' : w.heap.size < w3.heap.size := Nat.lt_of_lt_of_le (Nat.lt_add_of_pos_right (by decide)) kz; have l2'' : w.heap.size + 1 < w3.heap.size := kz)))
    all_goals go_wp2_with fail
    all_goals go_meet
    case rel => exact round_relA (DS.own hown (Dm.pd_lt _ _) (by omega)) u2 u3 k0 k1 kz hbu hB
    case rel =>
      have hq := DS.own hown (Dm.pd_lt _ _) (by omega)
      simp only [World.size_alloc] at hq
      exact round_relB hq u2 u3 k0 k1 kz hbu hB (by omega) al (by omega) a0 a1 a2 a3
    case rel => exact round_relB (DS.own hown (Dm.pd_lt _ _) (by omega)) u2 u3 k0 k1 kz hbu hB (by omega) al' (by omega) a0' a1' a2' a3'
  case rest =>
    obtain ⟨nb, g, rfl, HD, c0, c1, c2, c3, hnb, hne, d0, d1, f0', f1', hsz, hbel⟩ := hcut
    clear t0 t1 t2 t3 f0 f1 hz hbw hb l1 l2 w1
    generalize hB : decide (c < 0) = B at *
    have HB := hide hB
    clear hB
    have SC := hide (Dm.val_pd (N := c.natAbs) (W := 18) (by omega))
    obtain ⟨q, hq⟩ : ∃ q, q = Dm.sc c.natAbs (x - -p) false := ⟨_, rfl⟩
    have hq2 : (q : Int) ≤ 1000000000000000000 := by
      have := Dm.sc_le (D := Dm.pd c.natAbs 18) (Dm.pd_lt _ _) (n := 18) (x := x) (y := -p) false (by omega)
      rw [unhide SC, ← hq] at this
      omega
    have WC := hide (fun wx (h : DS wx g 0 18 (Dm.pd c.natAbs 18)) => wholeAt_any B false g 0 18 18 x (-p) _ wx h (by omega) (by omega) (by omega) (by omega) (by omega) (by omega))
    rw [unhide SC, ← hq] at WC
    have HQ := hide hq
    clear hq
    have hwp : IntKind.i64.wrap (-p) = -p := by rw [IntKind.wrap_i64]; omega
    go_wp2_with fail
    go_region_held2 (fun w' => w'.cell? ⟨nb, 0, none⟩ = some (.bool B) ∧ w'.cell? ⟨nb, 1, none⟩ = some (.slice (some ⟨g, 0, none⟩) 18 18) ∧ w'.cell? ⟨nb, 2, none⟩ = some (.int .i64 x) ∧ w'.cell? ⟨nb, 3, none⟩ = some (.bool false)) (first | go_keep | exact ⟨keep2 (by omega) (by assumption), keep2 (by omega) (by assumption), keep2 (by omega) (by assumption), keep2 (by omega) (by assumption)⟩)
      (first
      | (go_at_call 46; refine (unhide WC _ ?_).mono ?_; exact (unhide HD).below (Below.refl _ _).drew; rintro e w1 ⟨rfl, hb1⟩; obtain ⟨c0', c1', c2', c3', d0', d1', f0', f1', hsz', hnb'⟩ := round_cells hb1 hsz hnb c0 c1 c2 c3 d0 d1 f0' f1')
      | (go_at_call 45; refine (number_any B false _ x ⟨_, _, _, rfl⟩ q (-p) _ hq2 (by omega) (by omega)).mono ?_; rintro e w2 ⟨rfl, hb2⟩; obtain ⟨c0'', c1'', c2'', c3'', d0'', d1'', f0'', f1'', hsz'', hnb''⟩ := round_cells0 hb2 hsz' hnb' c0' c1' c2' c3' d0' d1' f0' f1'))
    all_goals
      go_wp2
      refine bodyPost_ret (v := .tuple #[.agg #[.int .i64 (Dm.fC (Dm.sg B q) (-p)), .int .i64 (Dm.fE (Dm.sg B q) (-p))], .int .i64 (Dm.fR (Dm.sg B q) (-p))]) (by simp [results, Try.results16, go_sem, d0'', d1'']) rfl ⟨?_, ?_⟩
      · rw [← unhide HQ, unhide HB]
      · have e1 : Below w.heap.size w w1 := (hbel.drew).trans (hb1.mono (by simp; omega))
        have e2 : Below w.heap.size w w2 := e1.trans (hb2.mono (by omega))
        exact (e2.setCell (by simp) _).setCell (by simp) _
end Go.Proofs.Ytibkemolmpcdcaa

/- dec and the document's answer tell the same: Neg, Round, Floor, Ceil (written by gen_bs3.py). -/
namespace Go.Proofs.Ytibkemolmpcdcaa
open Go.RowKit

theorem div_lt18 {c : Int} {k : Nat} (a1 : -1000000000000000000 < c) (a2 : c < 1000000000000000000) (hk : 1 ≤ k) : (c / (10 : Int) ^ k).natAbs < 1000000000000000000 := by
  have pp : (10 : Int) ≤ (10 : Int) ^ k := by
    obtain ⟨j, rfl⟩ : ∃ j, k = j + 1 := ⟨k - 1, by omega⟩
    have : (0 : Int) < (10 : Int) ^ j := Int.pow_pos (by decide)
    rw [Int.pow_succ]
    omega
  generalize (10 : Int) ^ k = P at *
  have h1 := Int.mul_ediv_add_emod c P
  have h2 := Int.emod_nonneg c (show P ≠ 0 by omega)
  have h3 := Int.emod_lt_of_pos c (show 0 < P by omega)
  generalize c / P = q at *
  rcases Int.lt_or_le q 0 with g | g
  · have : P * q ≤ 10 * q := Int.mul_le_mul_of_nonpos_right pp (by omega)
    have t : P * (q + 1) ≤ 10 * (q + 1) ∨ q = -1 := by
      rcases Int.lt_or_le (q + 1) 0 with k1 | k1
      · left; exact Int.mul_le_mul_of_nonpos_right pp (by omega)
      · right; omega
    rcases t with t | t
    · rw [Int.mul_add] at t; omega
    · omega
  · have : 10 * q ≤ P * q := Int.mul_le_mul_of_nonneg_right pp g
    omega

set_option maxHeartbeats 1000000 in
theorem neg_no (c x : Int) (w : World) (h : (Dm.wrongN c x != 0) = true) :
    Calls Try.prog 15 #[.agg #[.int .i64 c, .int .i64 x]] w fun e w' => e = T3 0 0 (Dm.wrongN c x) ∧ Below w.heap.size w w' := by
  go_enter Try.func15, Try.ntmps15
  go_wp2_with fail
  refine (wrong_any c x _).mono ?_
  rintro e w1 ⟨rfl, hb⟩
  obtain ⟨t0, t1, t2, t3, f0, f1, hz, hbw⟩ := two_cells hb
  clear hb
  go_wp2
  exact bodyPost_ret (v := .tuple #[.agg #[.int .i64 0, .int .i64 0], .int .i64 (Dm.wrongN c x)]) (by simp [results, Try.results15, go_sem, t2, t3]) rfl ⟨rfl, (hbw.setCell (by simp) _).setCell (by simp) _⟩

set_option maxHeartbeats 1000000 in
theorem round_no (c x p : Int) (w : World) (h : (Dm.wrongN c x != 0) = true) :
    Calls Try.prog 16 #[.agg #[.int .i64 c, .int .i64 x], .int .i64 p] w fun e w' => e = T3 0 0 (Dm.wrongN c x) ∧ Below w.heap.size w w' := by
  go_enter Try.func16, Try.ntmps16
  go_wp2_with fail
  refine (wrong_any c x _).mono ?_
  rintro e w1 ⟨rfl, hb⟩
  obtain ⟨t0, t1, t2, t3, f0, f1, hz, hbw⟩ := two_cells hb
  clear hb
  go_wp2
  exact bodyPost_ret (v := .tuple #[.agg #[.int .i64 0, .int .i64 0], .int .i64 (Dm.wrongN c x)]) (by simp [results, Try.results16, go_sem, t2, t3]) rfl ⟨rfl, (hbw.setCell (by simp) _).setCell (by simp) _⟩

set_option maxHeartbeats 1000000 in
theorem floor_no (c x : Int) (w : World) (h : (Dm.wrongN c x != 0) = true) :
    Calls Try.prog 18 #[.agg #[.int .i64 c, .int .i64 x]] w fun e w' => e = T3 0 0 (Dm.wrongN c x) ∧ Below w.heap.size w w' := by
  go_enter Try.func18, Try.ntmps18
  go_wp2_with fail
  refine (wrong_any c x _).mono ?_
  rintro e w1 ⟨rfl, hb⟩
  obtain ⟨t0, t1, t2, t3, f0, f1, hz, hbw⟩ := two_cells hb
  clear hb
  go_wp2
  exact bodyPost_ret (v := .tuple #[.agg #[.int .i64 0, .int .i64 0], .int .i64 (Dm.wrongN c x)]) (by simp [results, Try.results18, go_sem, t2, t3]) rfl ⟨rfl, (hbw.setCell (by simp) _).setCell (by simp) _⟩

set_option maxHeartbeats 1000000 in
theorem ceil_no (c x : Int) (w : World) (h : (Dm.wrongN c x != 0) = true) :
    Calls Try.prog 19 #[.agg #[.int .i64 c, .int .i64 x]] w fun e w' => e = T3 0 0 (Dm.wrongN c x) ∧ Below w.heap.size w w' := by
  go_enter Try.func19, Try.ntmps19
  go_wp2_with fail
  refine (wrong_any c x _).mono ?_
  rintro e w1 ⟨rfl, hb⟩
  obtain ⟨t0, t1, t2, t3, f0, f1, hz, hbw⟩ := two_cells hb
  clear hb
  go_wp2
  exact bodyPost_ret (v := .tuple #[.agg #[.int .i64 0, .int .i64 0], .int .i64 (Dm.wrongN c x)]) (by simp [results, Try.results19, go_sem, t2, t3]) rfl ⟨rfl, (hbw.setCell (by simp) _).setCell (by simp) _⟩

set_option maxHeartbeats 1000000 in
theorem neg_ok (c x : Int) (w : World) (h : Dm.wrongN c x = 0) :
    Calls Try.prog 15 #[.agg #[.int .i64 c, .int .i64 x]] w fun e w' => e = T3 (-c) x 0 ∧ Below w.heap.size w w' := by
  obtain ⟨p1, p2, p3, p4, _⟩ := Dm.wrong_ok h
  have g : (Dm.wrongN c x != 0) = false := by rw [h]; rfl
  clear h
  go_enter Try.func15, Try.ntmps15
  go_wp2_with fail
  refine (wrong_any c x _).mono ?_
  rintro e w1 ⟨rfl, hb⟩
  obtain ⟨t0, t1, t2, t3, f0, f1, hz, hbw⟩ := two_cells hb
  have OP := hide (opposite_any c x w1 p1 p2)
  clear hb
  go_wp2_with fail
  refine (unhide OP).mono ?_
  rintro e w2 ⟨rfl, hb2⟩
  have u2 := (hb2.cell (p := ⟨w.heap.size + 1, 0, none⟩) (by show w.heap.size + 1 < w1.heap.size; omega)).trans t2
  have u3 := (hb2.cell (p := ⟨w.heap.size + 1, 1, none⟩) (by show w.heap.size + 1 < w1.heap.size; omega)).trans t3
  have v0 := (hb2.frozen (p := ⟨w.heap.size + 1, 0, none⟩) (by show w.heap.size + 1 < w1.heap.size; omega)).trans f0
  have v1 := (hb2.frozen (p := ⟨w.heap.size + 1, 1, none⟩) (by show w.heap.size + 1 < w1.heap.size; omega)).trans f1
  have hbw2 := below_step hbw hb2
  clear hb2 t2 t3 f0 f1 hbw OP
  go_wp2
  exact bodyPost_ret (v := .tuple #[.agg #[.int .i64 (-c), .int .i64 x], .int .i64 0]) (by simp [results, Try.results15, go_sem, u2, u3]) rfl ⟨rfl, (hbw2.setCell (by simp) _).setCell (by simp) _⟩

theorem both_round (c x p : Int) : ∃ t1 t2 t3 : Int, (∀ w, Calls Try.prog 16 #[.agg #[.int .i64 c, .int .i64 x], .int .i64 p] w fun e w' => e = T3 t1 t2 t3 ∧ Below w.heap.size w w') ∧ (∀ w, Calls Try.prog 17 #[.agg #[.int .i64 c, .int .i64 x], .int .i64 p, .int .i64 0] w fun e w' => e = T3 t1 t2 t3 ∧ Below w.heap.size w w') := by
  by_cases h : Dm.wrongN c x = 0
  · obtain ⟨a1, a2, a3, a4, _⟩ := Dm.wrong_ok h
    by_cases hp : p < -40 ∨ 40 < p
    · exact ⟨0, 0, 3, fun w => round_far c x p w h hp, fun w => cut_far c x p 0 w h hp⟩
    · by_cases hx : -p ≤ x
      · refine ⟨c, x, 0, fun w => round_same c x p w h (by omega) (by omega) hx, fun w => ?_⟩
        refine (cut_near c x p w h a1 a2 a3 a4 (by omega) (by omega)).mono ?_
        rintro e w' ⟨rfl, hb⟩
        rw [whole_ratio hx, (nr_exact _ (Int.mul_pos (Int.pow_pos (by decide)) (Int.pow_pos (by decide)))).1, same_told h hx]
        exact ⟨rfl, hb⟩
      · refine ⟨_, _, _, fun w => round_some c x p w h (by omega) (by omega) (by omega), fun w => ?_⟩
        refine (cut_near c x p w h a1 a2 a3 a4 (by omega) (by omega)).mono ?_
        rintro e w' ⟨rfl, hb⟩
        rw [near_some, unit_told (near_lt a1 a2 (by omega)) (by omega)]
        exact ⟨rfl, hb⟩
  · have g : (Dm.wrongN c x != 0) = true := by rw [bne_iff_ne]; exact h
    exact ⟨0, 0, _, fun w => round_no c x p w g, fun w => cut_no c x p 0 w g⟩

theorem both_floor (c x : Int) : ∃ t1 t2 t3 : Int, (∀ w, Calls Try.prog 18 #[.agg #[.int .i64 c, .int .i64 x]] w fun e w' => e = T3 t1 t2 t3 ∧ Below w.heap.size w w') ∧ (∀ w, Calls Try.prog 17 #[.agg #[.int .i64 c, .int .i64 x], .int .i64 0, .int .i64 (-1)] w fun e w' => e = T3 t1 t2 t3 ∧ Below w.heap.size w w') := by
  by_cases h : Dm.wrongN c x = 0
  · obtain ⟨a1, a2, a3, a4, a5⟩ := Dm.wrong_ok h
    by_cases hx : 0 ≤ x
    · refine ⟨c, x, 0, fun w => floor_pos c x w h hx, fun w => ?_⟩
      refine (cut_down c x 0 w h a1 a2 a3 a4 (by omega) (by omega)).mono ?_
      rintro e w' ⟨rfl, hb⟩
      rw [whole_ratio (p := 0) (by omega), (nr_exact _ (Int.mul_pos (Int.pow_pos (by decide)) (Int.pow_pos (by decide)))).2, same_told h (by omega)]
      exact ⟨rfl, hb⟩
    · have h10 : c.tmod 10 ≠ 0 := fun g => by have := (a5 g).2; omega
      have h0 : c ≠ 0 := fun g => h10 (by rw [g]; rfl)
      refine ⟨_, _, _, fun w => floor_neg c x w h (by omega), fun w => ?_⟩
      refine (cut_down c x 0 w h a1 a2 a3 a4 (by omega) (by omega)).mono ?_
      rintro e w' ⟨rfl, hb⟩
      have e1 : c * (10 : Int) ^ x.toNat * (10 : Int) ^ (0 : Int).toNat / ((10 : Int) ^ (-x).toNat * (10 : Int) ^ (-0 : Int).toNat) = Dm.flW c (-x).toNat := by
        rw [show x.toNat = 0 by omega, ← (fl_is h0 (show 1 ≤ (-x).toNat by omega) h10).1]
        simp
      have lt : (Dm.flW c (-x).toNat).natAbs < 1000000000000000000 := by
        rw [← (fl_is h0 (show 1 ≤ (-x).toNat by omega) h10).1]
        exact div_lt18 a1 a2 (by omega)
      rw [e1, unit_told lt (by omega)]
      exact ⟨rfl, hb⟩
  · have g : (Dm.wrongN c x != 0) = true := by rw [bne_iff_ne]; exact h
    exact ⟨0, 0, _, fun w => floor_no c x w g, fun w => cut_no c x 0 (-1) w g⟩

theorem both_ceil (c x : Int) : ∃ t1 t2 t3 : Int, (∀ w, Calls Try.prog 19 #[.agg #[.int .i64 c, .int .i64 x]] w fun e w' => e = T3 t1 t2 t3 ∧ Below w.heap.size w w') ∧ (∀ w, Calls Try.prog 17 #[.agg #[.int .i64 c, .int .i64 x], .int .i64 0, .int .i64 1] w fun e w' => e = T3 t1 t2 t3 ∧ Below w.heap.size w w') := by
  by_cases h : Dm.wrongN c x = 0
  · obtain ⟨a1, a2, a3, a4, a5⟩ := Dm.wrong_ok h
    by_cases hx : 0 ≤ x
    · refine ⟨c, x, 0, fun w => ceil_pos c x w h hx, fun w => ?_⟩
      refine (cut_up c x 0 w h a1 a2 a3 a4 (by omega) (by omega)).mono ?_
      rintro e w' ⟨rfl, hb⟩
      rw [whole_ratio (p := 0) (by omega), ← Int.neg_mul, (nr_exact _ (Int.mul_pos (Int.pow_pos (by decide)) (Int.pow_pos (by decide)))).2, Int.neg_neg, same_told h (by omega)]
      exact ⟨rfl, hb⟩
    · have h10 : c.tmod 10 ≠ 0 := fun g => by have := (a5 g).2; omega
      have h0 : c ≠ 0 := fun g => h10 (by rw [g]; rfl)
      refine ⟨_, _, _, fun w => ceil_neg c x w h (by omega), fun w => ?_⟩
      refine (cut_up c x 0 w h a1 a2 a3 a4 (by omega) (by omega)).mono ?_
      rintro e w' ⟨rfl, hb⟩
      have e1 : -(-(c * (10 : Int) ^ x.toNat * (10 : Int) ^ (0 : Int).toNat) / ((10 : Int) ^ (-x).toNat * (10 : Int) ^ (-0 : Int).toNat)) = Dm.ceW c (-x).toNat := by
        rw [show x.toNat = 0 by omega, ← (fl_is h0 (show 1 ≤ (-x).toNat by omega) h10).2]
        simp
      have lt : (Dm.ceW c (-x).toNat).natAbs < 1000000000000000000 := by
        rw [← (fl_is h0 (show 1 ≤ (-x).toNat by omega) h10).2, Int.natAbs_neg]
        exact div_lt18 (by omega) (by omega) (by omega)
      rw [e1, unit_told lt (by omega)]
      exact ⟨rfl, hb⟩
  · have g : (Dm.wrongN c x != 0) = true := by rw [bne_iff_ne]; exact h
    exact ⟨0, 0, _, fun w => ceil_no c x w g, fun w => cut_no c x 0 1 w g⟩
end Go.Proofs.Ytibkemolmpcdcaa
