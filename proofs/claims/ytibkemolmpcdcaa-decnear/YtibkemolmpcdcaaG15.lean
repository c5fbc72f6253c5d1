/- Walks: Add, alive. -/
import Derived.Test.YtibkemolmpcdcaaG14
import Derived.Test.YtibkemolmpcdcaaG10
import Derived.Test.YtibkemolmpcdcaaG13
import Derived.Lib.Mul64
import Derived.Laws.Bits64b
import Derived.Deep.Cut
import Derived.Deep.CutBlock
import Derived.Deep.RegionHeld2
namespace Go.Proofs.Ytibkemolmpcdcaa
open Go.RowKit

/-- what is told of the fraction S times 10^x -/
def told (S x : Int) (R : Bool) : Ending := .returned (.tuple #[.agg #[.int .i64 (Dm.fC (Dm.nearZ S x R) (Dm.nE S.natAbs x)), .int .i64 (Dm.fE (Dm.nearZ S x R) (Dm.nE S.natAbs x))], .int .i64 (Dm.fR (Dm.nearZ S x R) (Dm.nE S.natAbs x))])

theorem three_cells {w w3 : World} {c1 x1 c2 x2 : Int}
    (hb : Below (((w.alloc (.cells #[.int .i64 c1, .int .i64 x1] 23)).alloc (.cells #[.int .i64 c2, .int .i64 x2] 23)).alloc (.cells #[.int .i64 0, .int .i64 0] 23)).heap.size
      (((w.alloc (.cells #[.int .i64 c1, .int .i64 x1] 23)).alloc (.cells #[.int .i64 c2, .int .i64 x2] 23)).alloc (.cells #[.int .i64 0, .int .i64 0] 23)) w3) :
    w3.cell? ⟨w.heap.size, 0, none⟩ = some (.int .i64 c1) ∧ w3.cell? ⟨w.heap.size, 1, none⟩ = some (.int .i64 x1) ∧ w3.cell? ⟨w.heap.size + 1, 0, none⟩ = some (.int .i64 c2) ∧ w3.cell? ⟨w.heap.size + 1, 1, none⟩ = some (.int .i64 x2) ∧
    w3.cell? ⟨w.heap.size + 1 + 1, 0, none⟩ = some (.int .i64 0) ∧ w3.cell? ⟨w.heap.size + 1 + 1, 1, none⟩ = some (.int .i64 0) ∧ w3.frozen? ⟨w.heap.size + 1 + 1, 0, none⟩ = false ∧ w3.frozen? ⟨w.heap.size + 1 + 1, 1, none⟩ = false ∧ w.heap.size + 3 ≤ w3.heap.size ∧ Below w.heap.size w w3 := by
  obtain ⟨hc, hf⟩ := bcell hb
  have s := hb.size
  simp at s
  have hw : Below w.heap.size w (((w.alloc (.cells #[.int .i64 c1, .int .i64 x1] 23)).alloc (.cells #[.int .i64 c2, .int .i64 x2] 23)).alloc (.cells #[.int .i64 0, .int .i64 0] 23)) :=
    (((Below.refl w.heap.size w).alloc (Nat.le_refl _) _).alloc (by simp) _).alloc (by simp; omega) _
  refine ⟨?_, ?_, ?_, ?_, ?_, ?_, ?_, ?_, by omega, hw.trans (hb.mono (by simp; omega))⟩
  all_goals first | (rw [hc _ _ (by simp <;> omega)]; simp [go_sem]; done) | (rw [hf _ _ (by simp <;> omega)]; simp [go_sem]; done)

set_option maxHeartbeats 400000 in
theorem add_no (c1 x1 c2 x2 : Int) (w : World) (h : (Dm.wrong2 c1 x1 c2 x2 != 0) = true) :
    Calls Try.prog 6 #[.agg #[.int .i64 c1, .int .i64 x1], .agg #[.int .i64 c2, .int .i64 x2]] w fun e w' => e = .returned (.tuple #[.agg #[.int .i64 0, .int .i64 0], .int .i64 (Dm.wrong2 c1 x1 c2 x2)]) ∧ Below w.heap.size w w' := by
  go_enter Try.func6, Try.ntmps6
  go_wp2_with fail
  refine (wrongOf_any c1 x1 c2 x2 _).mono ?_
  rintro e w1 ⟨rfl, hb⟩
  obtain ⟨t0, t1, t2, t3, t4, t5, f0, f1, hz, hbw⟩ := three_cells hb
  go_wp2
  exact bodyPost_ret (v := .tuple #[.agg #[.int .i64 0, .int .i64 0], .int .i64 (Dm.wrong2 c1 x1 c2 x2)]) (by simp [results, Try.results6, go_sem, t4, t5]) rfl ⟨rfl, (hbw.setCell (by simp; omega) _).setCell (by simp; omega) _⟩

set_option maxHeartbeats 400000 in
theorem add_ok (c1 x1 c2 x2 : Int) (w : World) (h1 : Dm.wrongN c1 x1 = 0) (h2 : Dm.wrongN c2 x2 = 0) :
    Calls Try.prog 6 #[.agg #[.int .i64 c1, .int .i64 x1], .agg #[.int .i64 c2, .int .i64 x2]] w fun e w' => e = told (Dm.addS c1 x1 c2 x2) (min x1 x2) false ∧ Below w.heap.size w w' := by
  obtain ⟨p1, p2, p3, p4, _⟩ := Dm.wrong_ok h1
  obtain ⟨q1, q2, q3, q4, _⟩ := Dm.wrong_ok h2
  have H := hide ((Dm.wrong2_ok h1 c2 x2).trans h2)
  have M := hide (show -40 ≤ min x1 x2 ∧ min x1 x2 ≤ 40 by omega)
  clear h1 h2
  go_enter Try.func6, Try.ntmps6
  go_wp2_with fail
  refine (wrongOf_any c1 x1 c2 x2 _).mono ?_
  rintro e w1 ⟨rfl, hb⟩
  obtain ⟨t0, t1, t2, t3, t4, t5, f0, f1, hz, hbw⟩ := three_cells hb
  rw [unhide H]
  go_wp2_with fail
  refine (dsum_any c1 x1 c2 x2 _ p1 p2 p3 p4 q1 q2 q3 q4).mono ?_
  rintro e w2 ⟨B, g, W, cap, D, rfl, hcap, hW, hD, hsg, hb2⟩
  have NZ := hide (Dm.sg_near hsg (min x1 x2))
  have hD' := hide hD
  have hb3 := hb.trans (hb2.mono hb.size)
  clear hsg hD t0 t1 t2 t3 t4 t5 f0 f1 hz hbw
  generalize hlow : min x1 x2 = low at *
  have HL := hide hlow
  clear hlow
  go_wp2_with fail
  refine (dnearest_any B false g 0 W cap low D _ (unhide hD') hcap (by omega) (by have := (unhide M).1; omega) (by have := (unhide M).2; omega)).mono ?_
  rintro e w3 ⟨rfl, hb4⟩
  obtain ⟨t0, t1, t2, t3, t4, t5, f0, f1, hz, hbw⟩ := three_cells (hb3.trans (hb4.mono hb3.size))
  rw [(unhide NZ).1, (unhide NZ).2]
  clear NZ hb4 hb3 hb2 hb
  go_wp2
  exact bodyPost_ret (v := .tuple #[.agg #[.int .i64 (Dm.fC (Dm.nearZ (Dm.addS c1 x1 c2 x2) low false) (Dm.nE (Dm.addS c1 x1 c2 x2).natAbs low)), .int .i64 (Dm.fE (Dm.nearZ (Dm.addS c1 x1 c2 x2) low false) (Dm.nE (Dm.addS c1 x1 c2 x2).natAbs low))], .int .i64 (Dm.fR (Dm.nearZ (Dm.addS c1 x1 c2 x2) low false) (Dm.nE (Dm.addS c1 x1 c2 x2).natAbs low))]) (by simp [results, Try.results6, go_sem, t4, t5]) rfl ⟨by rw [unhide HL]; rfl, (hbw.setCell (by simp; omega) _).setCell (by simp; omega) _⟩

theorem alive_val : told (Dm.addS 15 (-1) 5 (-1)) (min (-1) (-1)) false = .returned (.tuple #[.agg #[.int .i64 2, .int .i64 0], .int .i64 0]) := by
  have a : Dm.fC (Dm.nearZ (Dm.addS 15 (-1) 5 (-1)) (min (-1) (-1)) false) (Dm.nE (Dm.addS 15 (-1) 5 (-1)).natAbs (min (-1) (-1))) = 2 := by decide +kernel
  have b : Dm.fE (Dm.nearZ (Dm.addS 15 (-1) 5 (-1)) (min (-1) (-1)) false) (Dm.nE (Dm.addS 15 (-1) 5 (-1)).natAbs (min (-1) (-1))) = 0 := by decide +kernel
  have c : Dm.fR (Dm.nearZ (Dm.addS 15 (-1) 5 (-1)) (min (-1) (-1)) false) (Dm.nE (Dm.addS 15 (-1) 5 (-1)).natAbs (min (-1) (-1))) = 0 := by decide +kernel
  unfold told
  rw [a, b, c]

set_option maxHeartbeats 400000 in
theorem alive_any (w : World) :
    Calls Try.prog 20 #[] w fun e w' => e = .returned (.bool true) ∧ Below w.heap.size w w' := by
  have H := hide (fun wx => add_ok 15 (-1) 5 (-1) wx (by decide) (by decide))
  rw [alive_val] at H
  go_enter Try.func20, Try.ntmps20
  go_wp2_with fail
  refine (unhide H _).mono ?_
  rintro e w1 ⟨rfl, hb⟩
  go_wp2
  go_ret
  exact ⟨rfl, hb.alloc hb.size _⟩
end Go.Proofs.Ytibkemolmpcdcaa

/- Walks: opposite, Sub, towardsZero, Floor, Ceil. -/
namespace Go.Proofs.Ytibkemolmpcdcaa
open Go.RowKit

set_option maxHeartbeats 400000 in
theorem opposite_any (c x : Int) (w : World) (h1 : -1000000000000000000 < c) (h2 : c < 1000000000000000000) :
    Calls Try.prog 37 #[.agg #[.int .i64 c, .int .i64 x]] w fun e w' => e = .returned (.agg #[.int .i64 (-c), .int .i64 x]) ∧ Below w.heap.size w w' := by
  go_enter Try.func37, Try.ntmps37
  go_wp2
  exact bodyPost_ret (v := .agg #[.int .i64 (-c), .int .i64 x]) (by simp [results, Try.results37, go_sem]) rfl ⟨rfl, ((Below.refl _ _).alloc (Nat.le_refl _) _).alloc (by simp) _⟩

set_option maxHeartbeats 400000 in
theorem sub_no (c1 x1 c2 x2 : Int) (w : World) (h : (Dm.wrong2 c1 x1 c2 x2 != 0) = true) :
    Calls Try.prog 8 #[.agg #[.int .i64 c1, .int .i64 x1], .agg #[.int .i64 c2, .int .i64 x2]] w fun e w' => e = .returned (.tuple #[.agg #[.int .i64 0, .int .i64 0], .int .i64 (Dm.wrong2 c1 x1 c2 x2)]) ∧ Below w.heap.size w w' := by
  go_enter Try.func8, Try.ntmps8
  go_wp2_with fail
  refine (wrongOf_any c1 x1 c2 x2 _).mono ?_
  rintro e w1 ⟨rfl, hb⟩
  obtain ⟨t0, t1, t2, t3, t4, t5, f0, f1, hz, hbw⟩ := three_cells hb
  go_wp2
  exact bodyPost_ret (v := .tuple #[.agg #[.int .i64 0, .int .i64 0], .int .i64 (Dm.wrong2 c1 x1 c2 x2)]) (by simp [results, Try.results8, go_sem, t4, t5]) rfl ⟨rfl, (hbw.setCell (by simp; omega) _).setCell (by simp; omega) _⟩


set_option maxHeartbeats 1000000 in
theorem sub_ok (c1 x1 c2 x2 : Int) (w : World) (h1 : Dm.wrongN c1 x1 = 0) (h2 : Dm.wrongN c2 x2 = 0) :
    Calls Try.prog 8 #[.agg #[.int .i64 c1, .int .i64 x1], .agg #[.int .i64 c2, .int .i64 x2]] w fun e w' => e = told (Dm.addS c1 x1 (-c2) x2) (min x1 x2) false ∧ Below w.heap.size w w' := by
  obtain ⟨p1, p2, p3, p4, _⟩ := Dm.wrong_ok h1
  obtain ⟨q1, q2, q3, q4, _⟩ := Dm.wrong_ok h2
  have H := hide ((Dm.wrong2_ok h1 c2 x2).trans h2)
  have M := hide (show -40 ≤ min x1 x2 ∧ min x1 x2 ≤ 40 by omega)
  clear h1 h2
  go_enter Try.func8, Try.ntmps8
  go_wp2_with fail
  refine (wrongOf_any c1 x1 c2 x2 _).mono ?_
  rintro e w1 ⟨rfl, hb⟩
  obtain ⟨t0, t1, t2, t3, t4, t5, f0, f1, hz, hbw⟩ := three_cells hb
  rw [unhide H]
  have OP := hide (fun wx => opposite_any c2 x2 wx q1 q2)
  have SU := hide (fun wx => dsum_any c1 x1 (-c2) x2 wx p1 p2 p3 p4 (by omega) (by omega) q3 q4)
  go_upto_region 4 with fail
  go_region_with (first
    | (go_at_call 37; refine (unhide OP _).mono ?_; rintro e w2 ⟨rfl, hb2⟩; have hb2 := hb.drew.trans (hb2.mono hb.size); obtain ⟨t0', t1', t2', t3', t4', t5', f0', f1', hz', hbw'⟩ := three_cells hb2)
    | (go_at_call 34; refine (unhide SU _).mono ?_; rintro e w3 ⟨B, g, W, cap, D, rfl, hcap, hW, hD, hsg, hb3⟩; have hb3 := hb2.trans (hb3.mono hb2.size); have NZ := hide (Dm.sg_near hsg (min x1 x2)); clear hsg)
    | (go_at_call 35; refine (dnearest_any B false g 0 W cap (min x1 x2) D _ hD hcap (by omega) (by have := (unhide M).1; omega) (by have := (unhide M).2; omega)).mono ?_; rintro e w4 ⟨rfl, hb4⟩; have hb4 := hb3.trans (hb4.mono hb3.size); obtain ⟨u0, u1, u2, u3, u4, u5, k0, k1, kz, hbu⟩ := three_cells hb4; rw [(unhide NZ).1, (unhide NZ).2]))
  all_goals
    go_wp2
    exact bodyPost_ret (v := .tuple #[.agg #[.int .i64 (Dm.fC (Dm.nearZ (Dm.addS c1 x1 (-c2) x2) (min x1 x2) false) (Dm.nE (Dm.addS c1 x1 (-c2) x2).natAbs (min x1 x2))), .int .i64 (Dm.fE (Dm.nearZ (Dm.addS c1 x1 (-c2) x2) (min x1 x2) false) (Dm.nE (Dm.addS c1 x1 (-c2) x2).natAbs (min x1 x2)))], .int .i64 (Dm.fR (Dm.nearZ (Dm.addS c1 x1 (-c2) x2) (min x1 x2) false) (Dm.nE (Dm.addS c1 x1 (-c2) x2).natAbs (min x1 x2)))]) (by simp [results, Try.results8, go_sem, u4, u5]) rfl ⟨rfl, (hbu.setCell (by simp; omega) _).setCell (by simp; omega) _⟩
end Go.Proofs.Ytibkemolmpcdcaa

/- Walks: bits.Mul64; bits.Div64 by 10^18. -/
namespace Go.Proofs.Ytibkemolmpcdcaa
open Go.RowKit

theorem mk_mask (a : Nat) (ha : a < 18446744073709551616) : bits .and .u64 (a : Int) 4294967295 = ((a % 4294967296 : Nat) : Int) := by
  have h := bits_and_u64_nat a 4294967295 ha (by omega)
  rw [show a &&& 4294967295 = a % 4294967296 from Nat.and_two_pow_sub_one_eq_mod a 32] at h
  exact h
theorem mk_wrap (a : Nat) (ha : a < 18446744073709551616) : IntKind.u64.wrap (a : Int) = (a : Int) := by rw [IntKind.wrap_u64]; omega
theorem mk_wrapm (a : Nat) : IntKind.u64.wrap (a : Int) = ((a % 18446744073709551616 : Nat) : Int) := by rw [IntKind.wrap_u64]; omega
theorem mk_div (a : Nat) : (a : Int) / 4294967296 = ((a / 4294967296 : Nat) : Int) := by omega
theorem mk_mul (a b : Nat) : (a : Int) * (b : Int) = ((a * b : Nat) : Int) := (Int.natCast_mul a b).symm
theorem mk_add (a b : Nat) : (a : Int) + (b : Int) = ((a + b : Nat) : Int) := (Int.natCast_add a b).symm

set_option maxHeartbeats 1000000 in
theorem mul64_any (x y : Nat) (hx : x < 18446744073709551616) (hy : y < 18446744073709551616) (w : World) :
    Calls Try.prog 72 #[.int .u64 (x : Int), .int .u64 (y : Int)] w fun e w' => e = .returned (.tuple #[.int .u64 ((x * y / 18446744073709551616 : Nat) : Int), .int .u64 ((x * y % 18446744073709551616 : Nat) : Int)]) ∧ w' = w := by
  obtain ⟨bd, bt, bw, hhi⟩ := Lib.mul64_hi x y hx hy
  have pa := Lib.half_mul_le (a := x / 4294967296) (b := y / 4294967296) (by omega) (by omega)
  have pb := Lib.half_mul_le (a := x / 4294967296) (b := y % 4294967296) (by omega) (by omega)
  have pc := Lib.half_mul_le (a := x % 4294967296) (b := y / 4294967296) (by omega) (by omega)
  have qa : x / 4294967296 * (y / 4294967296) < 18446744073709551616 := by omega
  have qb : x / 4294967296 * (y % 4294967296) < 18446744073709551616 := by omega
  have qc : x % 4294967296 * (y / 4294967296) < 18446744073709551616 := by omega
  have h1 : x / 4294967296 * (y / 4294967296) + (x / 4294967296 * (y % 4294967296) + x % 4294967296 * (y % 4294967296) / 4294967296) / 4294967296 < 18446744073709551616 := by omega
  have h2 : x / 4294967296 * (y / 4294967296) + (x / 4294967296 * (y % 4294967296) + x % 4294967296 * (y % 4294967296) / 4294967296) / 4294967296 + ((x / 4294967296 * (y % 4294967296) + x % 4294967296 * (y % 4294967296) / 4294967296) % 4294967296 + x % 4294967296 * (y / 4294967296)) / 4294967296 < 18446744073709551616 := by omega
  have HH := hide hhi
  clear hhi
  go_enter Try.func72, Try.ntmps72
  go_wp2
  simp only [mk_mask x hx, mk_mask y hy, mk_div, mk_mul, mk_add, mk_wrap _ bd, mk_wrap _ qb, mk_wrap _ bt, mk_mask _ bt, mk_wrap _ qc, mk_wrap _ bw, mk_wrap _ qa, mk_wrap _ h1, mk_wrap _ h2, mk_wrapm (x * y)]
  rw [unhide HH]
  go_ret2
  exact ⟨rfl, rfl⟩
end Go.Proofs.Ytibkemolmpcdcaa

/- Walks: bits.Div64 by 10^18. -/
namespace Go.Proofs.Ytibkemolmpcdcaa
open Go.RowKit

def dq (h l : Nat) : Nat := (h * 18446744073709551616 + l) / 1000000000000000000
def dr (h l : Nat) : Nat := (h * 18446744073709551616 + l) % 1000000000000000000

set_option maxRecDepth 1000000 in
set_option maxHeartbeats 1000000 in
theorem div64_low (l : Nat) (hl : l < 18446744073709551616) (w : World) :
    Calls Try.prog 73 #[.int .u64 0, .int .u64 (l : Int), .int .u64 1000000000000000000] w fun e w' => e = .returned (.tuple #[.int .u64 (dq 0 l : Int), .int .u64 (dr 0 l : Int)]) ∧ Below w.heap.size w w' := by
  go_enter Try.func73, Try.ntmps73
  go_wp2
  go_quiet (fail)
  go_wp2
  go_ret2
  refine ⟨?_, below_drewN (Below.refl _ _) _⟩
  have e1 : (dq 0 l : Int) = (l : Int) / 1000000000000000000 := by unfold dq; omega
  have e2 : (dr 0 l : Int) = (l : Int) % 1000000000000000000 := by unfold dr; omega
  rw [e1, e2]
  rfl

set_option maxRecDepth 1000000 in
set_option maxHeartbeats 1000000 in
theorem lz_any (w : World) :
    Calls Try.prog 93 #[.int .u64 1000000000000000000] w fun e w' => e = .returned (.int .i64 4) ∧ w' = w := by
  go_enter Try.func93, Try.ntmps93
  go_wp2
  go_ret
  exact ⟨ret_int (by decide +kernel), rfl⟩

theorem and_low (T : Int) (t1 : 0 ≤ T) (t2 : T < 18446744073709551616) : ∃ T0 : Int, bits .and .u64 T 4294967295 = T0 ∧ 0 ≤ T0 ∧ T0 < 4294967296 ∧ T0 = T % 4294967296 := by
  obtain ⟨n, rfl⟩ := Int.eq_ofNat_of_zero_le t1
  exact ⟨_, mk_mask n (by omega), by omega, by omega, by omega⟩
theorem or_low (h l : Nat) (H L : Int) (hH : H = (h : Int)) (hL : L = (l : Int)) (hh : h < 60000000000000000) (hl : l < 18446744073709551616) :
    ∃ U : Int, bits .or .u64 (H * 16) (L / 1152921504606846976) = U ∧ 0 ≤ U ∧ U < 960000000000000016 ∧ U = H * 16 + L / 1152921504606846976 := by
  have e := bits_or_u64_nat (2 ^ 4 * h) (l / 1152921504606846976) (by omega) (by omega)
  rw [← Nat.two_pow_add_eq_or_of_lt (i := 4) (by omega) h] at e
  refine ⟨_, rfl, ?_⟩
  have e1 : H * 16 = ((2 ^ 4 * h : Nat) : Int) := by omega
  have e2 : L / 1152921504606846976 = ((l / 1152921504606846976 : Nat) : Int) := by omega
  rw [e1, e2, e]
  omega

set_option maxRecDepth 1000000 in
set_option maxHeartbeats 1000000 in
theorem div64_high (h l : Nat) (h0 : 1 ≤ h) (hh : h < 60000000000000000) (hl : l < 18446744073709551616) (w : World) :
    Calls Try.prog 73 #[.int .u64 (h : Int), .int .u64 (l : Int), .int .u64 1000000000000000000] w fun e w' => e = .returned (.tuple #[.int .u64 (dq h l : Int), .int .u64 (dr h l : Int)]) ∧ Below w.heap.size w w' := by
  obtain ⟨H, hH⟩ : ∃ H : Int, H = (h : Int) := ⟨_, rfl⟩
  obtain ⟨L, hL⟩ : ∃ L : Int, L = (l : Int) := ⟨_, rfl⟩
  have i1 : 1 ≤ H := by omega
  have i2 : H < 60000000000000000 := by omega
  have i0 : 0 ≤ L := by omega
  have i3 : L < 18446744073709551616 := by omega
  rw [← hH, ← hL]
  obtain ⟨U, b2, u1, u2, hU⟩ : ∃ U : Int, bits .or .u64 (H * 16) (L / 1152921504606846976) = U ∧ 0 ≤ U ∧ U < 960000000000000016 ∧ U = H * 16 + L / 1152921504606846976 := or_low h l H L hH hL (by omega) (by omega)
  obtain ⟨T, b3, t1, t2, hT⟩ : ∃ T : Int, IntKind.u64.wrap (L * 16) = T ∧ 0 ≤ T ∧ T < 18446744073709551616 ∧ T = L * 16 % 18446744073709551616 := ⟨_, IntKind.wrap_u64 _, by omega, by omega, rfl⟩
  obtain ⟨T0, b4, s1, s2, hT0⟩ : ∃ T0 : Int, bits .and .u64 T 4294967295 = T0 ∧ 0 ≤ T0 ∧ T0 < 4294967296 ∧ T0 = T % 4294967296 := and_low T t1 t2
  have b1 : bits .and .u64 16000000000000000000 4294967295 = 1983905792 := by decide +kernel
  obtain ⟨Q, hQ⟩ : ∃ Q : Int, Q = (U * 4294967296 + T / 4294967296) / 16000000000000000000 := ⟨_, rfl⟩
  obtain ⟨R, hR⟩ : ∃ R : Int, R = (U * 4294967296 + T / 4294967296) - Q * 16000000000000000000 := ⟨_, rfl⟩
  have q1 : 0 ≤ Q := by omega
  have q2 : Q ≤ 300000000 := by omega
  have r1 : 0 ≤ R := by omega
  have r2 : R < 16000000000000000000 := by omega
  obtain ⟨Z, hZ⟩ : ∃ Z : Int, Z = (R * 4294967296 + T0) / 16000000000000000000 := ⟨_, rfl⟩
  obtain ⟨E, hE⟩ : ∃ E : Int, E = (R * 4294967296 + T0) - Z * 16000000000000000000 := ⟨_, rfl⟩
  have z1 : 0 ≤ Z := by omega
  have z2 : Z < 4294967296 := by omega
  have k1 : 0 ≤ E := by omega
  have k2 : E < 16000000000000000000 := by omega
  obtain ⟨X1, x1, x1'⟩ : ∃ X : Int, IntKind.u64.wrap (U * 4294967296) = X ∧ X = U * 4294967296 % 18446744073709551616 := ⟨_, IntKind.wrap_u64 _, rfl⟩
  obtain ⟨X2, x2, x2'⟩ : ∃ X : Int, IntKind.u64.wrap (X1 + T / 4294967296) = X ∧ X = (X1 + T / 4294967296) % 18446744073709551616 := ⟨_, IntKind.wrap_u64 _, rfl⟩
  obtain ⟨X3, x3, x3'⟩ : ∃ X : Int, IntKind.u64.wrap (Q * 16000000000000000000) = X ∧ X = Q * 16000000000000000000 % 18446744073709551616 := ⟨_, IntKind.wrap_u64 _, rfl⟩
  have x4 : IntKind.u64.wrap (X2 - X3) = R := by rw [IntKind.wrap_u64]; omega
  obtain ⟨Y1, y1, y1'⟩ : ∃ X : Int, IntKind.u64.wrap (R * 4294967296) = X ∧ X = R * 4294967296 % 18446744073709551616 := ⟨_, IntKind.wrap_u64 _, rfl⟩
  obtain ⟨Y2, y2, y2'⟩ : ∃ X : Int, IntKind.u64.wrap (Y1 + T0) = X ∧ X = (Y1 + T0) % 18446744073709551616 := ⟨_, IntKind.wrap_u64 _, rfl⟩
  obtain ⟨Y3, y3, y3'⟩ : ∃ X : Int, IntKind.u64.wrap (Z * 16000000000000000000) = X ∧ X = Z * 16000000000000000000 % 18446744073709551616 := ⟨_, IntKind.wrap_u64 _, rfl⟩
  have y4 : IntKind.u64.wrap (Y2 - Y3) = E := by rw [IntKind.wrap_u64]; omega
  have FQ : Hid ((dq h l : Int) = Q * 4294967296 + Z ∧ (dr h l : Int) = E / 16) := hide (by unfold dq dr; omega)
  have HQ := hide hQ
  have HR := hide hR
  have HZ := hide hZ
  have bx1 : 0 ≤ X1 := by omega
  have bx2 : 0 ≤ X2 := by omega
  clear h0 hh hl hH hL hU hT hT0 hQ hR hZ hE x1' x2' x3' y1' y2' y3'
  go_enter Try.func73, Try.ntmps73
  go_wp2_with fail
  refine (lz_any _).mono ?_
  rintro e w1 ⟨rfl, rfl⟩
  go_upto_block 0 with fail
  go_cut [15, 16] from 19 (fun a _ wc => a = .int .u64 Q ∧ Below w1.heap.size w1 wc)
  case first =>
    go_wp2_with fail
    go_loop [15, 16] (fun a b => ∃ q r : Int, a = .int .u64 q ∧ b = .int .u64 r ∧ Hid (q * 3725290298 + r = U) ∧ 0 ≤ r ∧ r < 4294967296 ∧ Q ≤ q ∧ q ≤ 300000000) (fun a _ => (intOf a).toNat)
    case atStart => exact ⟨_, _, rfl, rfl, hide (by omega), by omega, by omega, by have := unhide HQ; omega, by omega⟩
    case round =>
      obtain ⟨q, r, rfl, rfl, G, g1, g2, g3, g4⟩ := hrel
      by_cases hc : 4294967296 * r + T / 4294967296 < q * 1983905792
      · have g5 : Q ≤ q - 1 := by have := unhide G; have := unhide HQ; omega
        by_cases hr : 4294967296 ≤ r + 3725290298
        · exfalso; omega
        · go_wp2
          go_round
          case rel => exact ⟨_, _, rfl, rfl, hide (by have := unhide G; omega), by omega, by omega, g5, by omega⟩
          case measure => simp [intOf]; omega
      · go_wp2_with fail
        go_meet
        case rel => exact ⟨by congr 1; have := unhide G; have := unhide HQ; omega, Below.refl _ _⟩
  case rest =>
    obtain ⟨rfl, hbel⟩ := hcut
    go_upto_block 2 with fail
    go_cut [16, 18] from 19 (fun _ a wd => a = .int .u64 Z ∧ Below w1.heap.size w1 wd)
    case first =>
      go_wp2_with fail
      go_loop [16, 18] (fun b a => ∃ q r : Int, a = .int .u64 q ∧ b = .int .u64 r ∧ Hid (q * 3725290298 + r = R) ∧ 0 ≤ r ∧ r < 4294967296 ∧ Z ≤ q ∧ q ≤ 4294967296) (fun _ a => (intOf a).toNat)
      case atStart => exact ⟨_, _, rfl, rfl, hide (by omega), by omega, by omega, by have := unhide HZ; omega, by omega⟩
      case round =>
        obtain ⟨q, r, rfl, rfl, G, g1, g2, g3, g4⟩ := hrel
        by_cases hq : 4294967296 ≤ q
        · have g5 : Z ≤ q - 1 := by omega
          by_cases hr : 4294967296 ≤ r + 3725290298
          · go_wp2_with fail
            go_meet
            case rel => exact ⟨by congr 1; have := unhide G; have := unhide HZ; omega, hbel⟩
          · go_wp2
            go_round
            case rel => exact ⟨_, _, rfl, rfl, hide (by have := unhide G; omega), by omega, by omega, g5, by omega⟩
            case measure => simp [intOf]; omega
        · by_cases hc : 4294967296 * r + T0 < q * 1983905792
          · have g5 : Z ≤ q - 1 := by have := unhide G; have := unhide HZ; omega
            by_cases hr : 4294967296 ≤ r + 3725290298
            · go_wp2_with fail
              go_meet
              case rel => exact ⟨by congr 1; have := unhide G; have := unhide HZ; omega, hbel⟩
            · go_wp2
              go_round
              case rel => exact ⟨_, _, rfl, rfl, hide (by have := unhide G; omega), by omega, by omega, g5, by omega⟩
              case measure => simp [intOf]; omega
          · go_wp2_with fail
            go_meet
            case rel => exact ⟨by congr 1; have := unhide G; have := unhide HZ; omega, hbel⟩
    case rest =>
      obtain ⟨rfl, hbel2⟩ := hcut
      go_wp2
      go_ret2
      refine ⟨?_, hbel2⟩
      rw [(unhide FQ).1, (unhide FQ).2]
      rfl
end Go.Proofs.Ytibkemolmpcdcaa

/- Walks: product. -/
namespace Go.Proofs.Ytibkemolmpcdcaa
open Go.RowKit

theorem own_below {w w' : World} {base e size n : Nat} {v : Value} {xs : List Value} (h : w.ownsRow base e size v n xs) (hb : Below w.heap.size w w') : w'.ownsRow base e size v n xs := by
  refine ⟨h.1, ?_⟩
  rcases h.2 with hn | ⟨g, cap, cur, rfl, hbs, hg, rest⟩
  · exact .inl hn
  · refine .inr ⟨g, cap, cur, rfl, hbs, ?_, rest⟩
    rw [hb.block g (Array.getElem?_eq_some_iff.1 hg).1]
    exact hg
theorem rowL_append (D E : Nat → Nat) (n m : Nat) : rowL D n ++ rowL E m = rowL (fun j => if j < n then D j else E (j - n)) (n + m) := by
  apply List.ext_getElem?
  intro j
  by_cases h : j < n
  · rw [List.getElem?_append_left (by rw [rowL_len]; exact h), rowL_at _ h, rowL_at _ (by omega), if_pos h]
  · rw [List.getElem?_append_right (by rw [rowL_len]; omega), rowL_len]
    by_cases g : j < n + m
    · rw [rowL_at _ (by omega), rowL_at _ g, if_neg h]
    · rw [List.getElem?_eq_none (by rw [rowL_len]; omega), List.getElem?_eq_none (by rw [rowL_len]; omega)]
theorem rowL_one (D : Nat → Nat) (n : Nat) : ∀ u ∈ rowL D n, u.oneCell' = true := by
  intro u hu
  obtain ⟨_, _, rfl⟩ := List.mem_map.1 hu
  rfl
theorem rowL_cells {w : World} {b off n : Nat} {D : Nat → Nat} (h : DS w b off n D) : ∀ j u, (rowL D n)[j]? = some u → w.cell? ((⟨b, off, none⟩ : Addr).add j) = some u := by
  intro j u hu
  have hj : j < n := by have := (List.getElem?_eq_some_iff.1 hu).1; rw [rowL_len] at this; exact this
  rw [rowL_at D hj] at hu
  rw [Addr.add_lit, h.cell j hj]
  exact hu
/-- an owned row is a slice at the head of a block -/
theorem own_shape {w : World} {base e n : Nat} {v : Value} {xs : List Value} (h : w.ownsRow base e 1 v n xs) (hn : 0 < n) : ∃ g cap, v = .slice (some ⟨g, 0, none⟩) n cap ∧ n ≤ cap ∧ base ≤ g := by
  rcases h.2 with ⟨_, h0⟩ | ⟨g, cap, cur, rfl, hb, _, hc, _⟩
  · omega
  · exact ⟨g, cap, rfl, hc, hb⟩

theorem frac3 {w w3 : World} {c1 x1 c2 x2 : Int}
    (hb : Below (((w.alloc (.cells #[.int .i64 c1, .int .i64 x1] 23)).alloc (.cells #[.int .i64 c2, .int .i64 x2] 23)).alloc (.cells #[.bool false, .slice none 0 0, .int .i64 0, .bool false] 56)).heap.size (((w.alloc (.cells #[.int .i64 c1, .int .i64 x1] 23)).alloc (.cells #[.int .i64 c2, .int .i64 x2] 23)).alloc (.cells #[.bool false, .slice none 0 0, .int .i64 0, .bool false] 56)) w3) :
    w3.cell? ⟨w.heap.size, 0, none⟩ = some (.int .i64 c1) ∧ w3.cell? ⟨w.heap.size, 1, none⟩ = some (.int .i64 x1) ∧ w3.cell? ⟨w.heap.size + 1, 0, none⟩ = some (.int .i64 c2) ∧ w3.cell? ⟨w.heap.size + 1, 1, none⟩ = some (.int .i64 x2) ∧
    w3.cell? ⟨w.heap.size + 1 + 1, 0, none⟩ = some (.bool false) ∧ w3.cell? ⟨w.heap.size + 1 + 1, 1, none⟩ = some (.slice none 0 0) ∧ w3.cell? ⟨w.heap.size + 1 + 1, 2, none⟩ = some (.int .i64 0) ∧ w3.cell? ⟨w.heap.size + 1 + 1, 3, none⟩ = some (.bool false) ∧
    w3.frozen? ⟨w.heap.size + 1 + 1, 0, none⟩ = false ∧ w3.frozen? ⟨w.heap.size + 1 + 1, 1, none⟩ = false ∧ w3.frozen? ⟨w.heap.size + 1 + 1, 2, none⟩ = false ∧ w3.frozen? ⟨w.heap.size + 1 + 1, 3, none⟩ = false ∧ w.heap.size + 3 ≤ w3.heap.size ∧ Below w.heap.size w w3 := by
  obtain ⟨hc, hf⟩ := bcell hb
  have s := hb.size
  simp at s
  have hw : Below w.heap.size w (((w.alloc (.cells #[.int .i64 c1, .int .i64 x1] 23)).alloc (.cells #[.int .i64 c2, .int .i64 x2] 23)).alloc (.cells #[.bool false, .slice none 0 0, .int .i64 0, .bool false] 56)) := (((Below.refl w.heap.size w).alloc (Nat.le_refl _) _).alloc (by simp) _).alloc (by simp; omega) _
  refine ⟨?_, ?_, ?_, ?_, ?_, ?_, ?_, ?_, ?_, ?_, ?_, ?_, by omega, hw.trans (hb.mono (by simp; omega))⟩
  all_goals first | (rw [hc _ _ (by simp <;> omega)]; simp [go_sem]; done) | (rw [hf _ _ (by simp <;> omega)]; simp [go_sem]; done)

theorem div64_any (h l : Nat) (hh : h < 60000000000000000) (hl : l < 18446744073709551616) (w : World) :
    Calls Try.prog 73 #[.int .u64 (h : Int), .int .u64 (l : Int), .int .u64 1000000000000000000] w fun e w' => e = .returned (.tuple #[.int .u64 (dq h l : Int), .int .u64 (dr h l : Int)]) ∧ Below w.heap.size w w' := by
  rcases Nat.eq_zero_or_pos h with g | g
  · subst g
    exact div64_low l hl w
  · exact div64_high h l g hh hl w

theorem prod_facts (a b : Nat) (ha : a < 1000000000000000000) (hb : b < 1000000000000000000) :
    ∃ h l : Nat, a * b / 18446744073709551616 = h ∧ a * b % 18446744073709551616 = l ∧ h < 60000000000000000 ∧ l < 18446744073709551616 ∧ dq h l < 1000000000000000000 ∧ dr h l < 1000000000000000000 ∧ dq h l * 1000000000000000000 + dr h l = a * b := by
  have m : a * b ≤ 999999999999999999 * 999999999999999999 := Nat.mul_le_mul (by omega) (by omega)
  refine ⟨_, _, rfl, rfl, ?_⟩
  unfold dq dr
  generalize a * b = P at *
  omega

theorem prod_dig (up lo : Nat) : ∀ j, (if j < 18 then Dm.pd up 18 j else Dm.pd lo 18 (j - 18)) < 10 := by
  intro j
  split
  · exact Dm.pd_lt _ _ _
  · exact Dm.pd_lt _ _ _
theorem prod_val {up lo : Nat} (hu : up < 1000000000000000000) (hl : lo < 1000000000000000000) : Dm.val (fun j => if j < 18 then Dm.pd up 18 j else Dm.pd lo 18 (j - 18)) 36 = up * 1000000000000000000 + lo := by
  have e := Dm.val_drop (fun j => if j < 18 then Dm.pd up 18 j else Dm.pd lo 18 (j - 18)) 18 18
  have e1 : Dm.val (fun j => if j < 18 then Dm.pd up 18 j else Dm.pd lo 18 (j - 18)) 18 = Dm.val (Dm.pd up 18) 18 := Dm.val_congr 18 (fun j hj => by simp only [if_pos hj])
  have e2 : Dm.val (fun j => if 18 + j < 18 then Dm.pd up 18 (18 + j) else Dm.pd lo 18 (18 + j - 18)) 18 = Dm.val (Dm.pd lo 18) 18 := Dm.val_congr 18 (fun j _ => by simp only [if_neg (show ¬ 18 + j < 18 by omega), Nat.add_sub_cancel_left])
  rw [e1, e2, Dm.val_pd (by omega), Dm.val_pd (by omega)] at e
  omega

set_option maxHeartbeats 1000000 in
theorem product_any (c1 x1 c2 x2 : Int) (w : World) (a1 : -1000000000000000000 < c1) (a2 : c1 < 1000000000000000000) (a3 : -40 ≤ x1) (a4 : x1 ≤ 40)
    (b1 : -1000000000000000000 < c2) (b2 : c2 < 1000000000000000000) (b3 : -40 ≤ x2) (b4 : x2 ≤ 40) :
    Calls Try.prog 38 #[.agg #[.int .i64 c1, .int .i64 x1], .agg #[.int .i64 c2, .int .i64 x2]] w fun e w' => ∃ (g cap : Nat) (D : Nat → Nat), e = .returned (.agg #[.bool (!(decide (c1 < 0) == decide (c2 < 0))), .slice (some ⟨g, 0, none⟩) 36 cap, .int .i64 (x1 + x2), .bool false]) ∧ 36 ≤ cap ∧ DS w' g 0 36 D ∧ Dm.val D 36 = c1.natAbs * c2.natAbs ∧ Below w.heap.size w w' := by
  obtain ⟨h, l, eh, el, hh, hl, hu, hd, hp⟩ := prod_facts c1.natAbs c2.natAbs (by omega) (by omega)
  have MU := hide (fun wx => mul64_any c1.natAbs c2.natAbs (by omega) (by omega) wx)
  rw [eh, el] at MU
  have DV := hide (fun wx => div64_any h l hh hl wx)
  have SA := hide (fun wx => size_any c1 x1 wx a1 a2)
  have SB := hide (fun wx => size_any c2 x2 wx b1 b2)
  have HP := hide hp
  obtain ⟨i0, hi, hz0, hz1, hz2⟩ := info_parts info_u8
  have I0 := hide hi
  have I1 := hide hz0
  have I2 := hide hz1
  have I3 := hide hz2
  generalize dq h l = up at *
  generalize dr h l = lo at *
  clear eh el hh hl hp hi hz0 hz1 hz2
  go_enter Try.func38, Try.ntmps38
  go_upto_region 1 with fail
  go_cut [5, 6] from 10 (fun a b wc => a = .int .u64 (h : Int) ∧ b = .int .u64 (l : Int) ∧ Hid (Below (((w.alloc (.cells #[.int .i64 c1, .int .i64 x1] 23)).alloc (.cells #[.int .i64 c2, .int .i64 x2] 23)).alloc (.cells #[.bool false, .slice none 0 0, .int .i64 0, .bool false] 56)).heap.size (((w.alloc (.cells #[.int .i64 c1, .int .i64 x1] 23)).alloc (.cells #[.int .i64 c2, .int .i64 x2] 23)).alloc (.cells #[.bool false, .slice none 0 0, .int .i64 0, .bool false] 56)) wc))
  case first =>
    have f0 := frac3 (Below.refl (((w.alloc (.cells #[.int .i64 c1, .int .i64 x1] 23)).alloc (.cells #[.int .i64 c2, .int .i64 x2] 23)).alloc (.cells #[.bool false, .slice none 0 0, .int .i64 0, .bool false] 56)).heap.size (((w.alloc (.cells #[.int .i64 c1, .int .i64 x1] 23)).alloc (.cells #[.int .i64 c2, .int .i64 x2] 23)).alloc (.cells #[.bool false, .slice none 0 0, .int .i64 0, .bool false] 56)))
    obtain ⟨t0, t1, t2, t3, _⟩ := f0
    go_region_held2 (fun w' => w'.cell? ⟨w.heap.size, 0, none⟩ = some (.int .i64 c1) ∧ w'.cell? ⟨w.heap.size, 1, none⟩ = some (.int .i64 x1) ∧ w'.cell? ⟨w.heap.size + 1, 0, none⟩ = some (.int .i64 c2) ∧ w'.cell? ⟨w.heap.size + 1, 1, none⟩ = some (.int .i64 x2)) (go_keep) (first
      | (go_at_call_of 44 (Value.int IntKind.i64 c1); refine (unhide SA _).mono ?_; rintro e w1 ⟨rfl, hb1⟩; have hb1 := (Below.refl _ _).drew.trans hb1; obtain ⟨t0', t1', t2', t3', _⟩ := frac3 hb1)
      | (go_at_call_of 44 (Value.int IntKind.i64 c2); refine (unhide SB _).mono ?_; rintro e w2 ⟨rfl, hb2⟩; have hb2 := hb1.trans (hb2.mono hb1.size); obtain ⟨t0'', t1'', t2'', t3'', _⟩ := frac3 hb2)
      | (go_at_call 72; refine (unhide MU _).mono ?_; rintro e w3 ⟨rfl, rfl⟩))
    all_goals
      go_wp2_with fail
      go_meet
      case rel => exact ⟨rfl, rfl, hide hb2⟩
  case rest =>
    obtain ⟨rfl, rfl, HB⟩ := hcut
    go_wp2_with fail
    refine (unhide DV _).mono ?_
    rintro e w4 ⟨rfl, hb4⟩
    have HB4 := hide ((unhide HB).trans (hb4.mono (unhide HB).size))
    clear hb4 HB
    go_wp2_with fail
    refine (padded_any up 18 _ (by omega) (by omega)).mono ?_
    rintro e w5 ⟨rfl, own5, hb5⟩
    have HB5 := hide ((unhide HB4).trans (hb5.mono (unhide HB4).size))
    have O5 := hide own5
    clear own5
    go_wp2_with fail
    refine (padded_any lo 18 _ (by omega) (by omega)).mono ?_
    rintro e w6 ⟨rfl, own6, hb6⟩
    have HB6 := hide ((unhide HB5).trans (hb6.mono (unhide HB5).size))
    have O5' := hide (own_below (unhide O5) hb6)
    have D6 := hide (DS.own own6 (Dm.pd_lt _ _) (by omega))
    have sz : w4.heap.size ≤ w6.heap.size := Nat.le_trans hb5.size hb6.size
    clear own6 hb5 hb6 O5
    have a1' := rowL_cells (unhide D6)
    have a2' : 18 + 18 ≤ maxLen := by unfold maxLen; omega
    have A1 := hide a1'
    have A2 := hide a2'
    clear a1' a2'
    go_wp2_with (at_builtin; refine wpList_append_own _ rfl _ _ 54 rfl w4.heap.size 5 i0 (.int .u8 0) 1 1 Try.underlying54 (unhide I0) (unhide I1) (unhide I2) (unhide I3) rfl (by decide) _ _ _ rfl (unhide O5') ⟨w5.heap.size, 0, none⟩ 18 18 (rowL (Dm.pd lo 18) 18) rfl (rowL_len _ _) (unhide A1) (rowL_one _ _) (unhide A2) (by omega) sz ?_)
    intro v' w7 own7 hgrow _
    rw [rowL_append] at own7
    obtain ⟨g, cap, hv, hcap, hgb⟩ := own_shape own7 (by omega)
    have HB7 := hide ((unhide HB6).grown hgrow (unhide HB6).size (fun k hk => by simp [Value.ownBlock] at hk; rw [← hk]; exact (unhide HB4).size))
    rw [hv] at own7 ⊢
    have D7 := hide (DS.own own7 (prod_dig up lo) (by omega))
    have hs4 : w.heap.size + 1 + 1 + 1 ≤ w4.heap.size := by have := (unhide HB4).size; simp at this; omega
    clear own7 hgrow hv O5' D6 HB4 HB5 HB6
    obtain ⟨t0, t1, t2, t3, r0, r1, r2, r3, f0, f1, f2, f3, hsz, hbw⟩ := frac3 (unhide HB7)
    go_wp2
    refine bodyPost_ret (v := .agg #[.bool (!(decide (c1 < 0) == decide (c2 < 0))), .slice (some ⟨g, 0, none⟩) 36 cap, .int .i64 (x1 + x2), .bool false]) (by simp [results, Try.results38, go_sem, r0, r1, r2, r3]) rfl ?_
    exact ⟨g, cap, _, rfl, hcap, ((((unhide D7).setCell (by simp; omega) _).setCell (by simp; omega) _).setCell (by simp; omega) _).setCell (by simp; omega) _, (prod_val hu hd).trans (unhide HP), (((hbw.setCell (by simp; omega) _).setCell (by simp; omega) _).setCell (by simp; omega) _).setCell (by simp; omega) _⟩
end Go.Proofs.Ytibkemolmpcdcaa

/- Walks: Mul. -/
namespace Dm
theorem prod_sg {c1 c2 : Int} {v : Nat} (h : v = c1.natAbs * c2.natAbs) : sg (!(decide (c1 < 0) == decide (c2 < 0))) v = c1 * c2 := by
  subst h
  unfold sg
  by_cases h1 : c1 < 0 <;> by_cases h2 : c2 < 0 <;> simp only [h1, h2, decide_true, decide_false] <;> simp only [Int.natCast_mul]
  · rw [show (c1.natAbs : Int) = -c1 by omega, show (c2.natAbs : Int) = -c2 by omega]; simp [Int.neg_mul, Int.mul_neg]
  · rw [show (c1.natAbs : Int) = -c1 by omega, show (c2.natAbs : Int) = c2 by omega]; simp [Int.neg_mul]
  · rw [show (c1.natAbs : Int) = c1 by omega, show (c2.natAbs : Int) = -c2 by omega]; simp [Int.mul_neg]
  · rw [show (c1.natAbs : Int) = c1 by omega, show (c2.natAbs : Int) = c2 by omega]; simp
end Dm
namespace Go.Proofs.Ytibkemolmpcdcaa
open Go.RowKit

set_option maxHeartbeats 400000 in
theorem dmul_no (c1 x1 c2 x2 : Int) (w : World) (h : (Dm.wrong2 c1 x1 c2 x2 != 0) = true) :
    Calls Try.prog 9 #[.agg #[.int .i64 c1, .int .i64 x1], .agg #[.int .i64 c2, .int .i64 x2]] w fun e w' => e = .returned (.tuple #[.agg #[.int .i64 0, .int .i64 0], .int .i64 (Dm.wrong2 c1 x1 c2 x2)]) ∧ Below w.heap.size w w' := by
  go_enter Try.func9, Try.ntmps9
  go_wp2_with fail
  refine (wrongOf_any c1 x1 c2 x2 _).mono ?_
  rintro e w1 ⟨rfl, hb⟩
  obtain ⟨t0, t1, t2, t3, t4, t5, f0, f1, hz, hbw⟩ := three_cells hb
  go_wp2
  exact bodyPost_ret (v := .tuple #[.agg #[.int .i64 0, .int .i64 0], .int .i64 (Dm.wrong2 c1 x1 c2 x2)]) (by simp [results, Try.results9, go_sem, t4, t5]) rfl ⟨rfl, (hbw.setCell (by simp; omega) _).setCell (by simp; omega) _⟩

set_option maxHeartbeats 400000 in
theorem mul_ok (c1 x1 c2 x2 : Int) (w : World) (h1 : Dm.wrongN c1 x1 = 0) (h2 : Dm.wrongN c2 x2 = 0) :
    Calls Try.prog 9 #[.agg #[.int .i64 c1, .int .i64 x1], .agg #[.int .i64 c2, .int .i64 x2]] w fun e w' => e = told (c1 * c2) (x1 + x2) false ∧ Below w.heap.size w w' := by
  obtain ⟨p1, p2, p3, p4, _⟩ := Dm.wrong_ok h1
  obtain ⟨q1, q2, q3, q4, _⟩ := Dm.wrong_ok h2
  have H := hide ((Dm.wrong2_ok h1 c2 x2).trans h2)
  clear h1 h2
  go_enter Try.func9, Try.ntmps9
  go_wp2_with fail
  refine (wrongOf_any c1 x1 c2 x2 _).mono ?_
  rintro e w1 ⟨rfl, hb⟩
  obtain ⟨t0, t1, t2, t3, t4, t5, f0, f1, hz, hbw⟩ := three_cells hb
  rw [unhide H]
  go_wp2_with fail
  refine (product_any c1 x1 c2 x2 _ p1 p2 p3 p4 q1 q2 q3 q4).mono ?_
  rintro e w2 ⟨g, cap, D, rfl, hcap, hD, hv, hb2⟩
  have NZ := hide (Dm.sg_near (Dm.prod_sg hv) (x1 + x2))
  have hD' := hide hD
  have hb3 := hb.trans (hb2.mono hb.size)
  clear hv hD t0 t1 t2 t3 t4 t5 f0 f1 hz hbw
  generalize (!(decide (c1 < 0) == decide (c2 < 0))) = B at *
  go_wp2_with fail
  refine (dnearest_any B false g 0 36 cap (x1 + x2) D _ (unhide hD') hcap (by omega) (by omega) (by omega)).mono ?_
  rintro e w3 ⟨rfl, hb4⟩
  obtain ⟨t0, t1, t2, t3, t4, t5, f0, f1, hz, hbw⟩ := three_cells (hb3.trans (hb4.mono hb3.size))
  rw [(unhide NZ).1, (unhide NZ).2]
  clear NZ hb4 hb3 hb2 hb
  go_wp2
  exact bodyPost_ret (v := .tuple #[.agg #[.int .i64 (Dm.fC (Dm.nearZ (c1 * c2) (x1 + x2) false) (Dm.nE (c1 * c2).natAbs (x1 + x2))), .int .i64 (Dm.fE (Dm.nearZ (c1 * c2) (x1 + x2) false) (Dm.nE (c1 * c2).natAbs (x1 + x2)))], .int .i64 (Dm.fR (Dm.nearZ (c1 * c2) (x1 + x2) false) (Dm.nE (c1 * c2).natAbs (x1 + x2)))]) (by simp [results, Try.results9, go_sem, t4, t5]) rfl ⟨rfl, (hbw.setCell (by simp; omega) _).setCell (by simp; omega) _⟩

end Go.Proofs.Ytibkemolmpcdcaa

/- Walks: quotient. -/
namespace Go.Proofs.Ytibkemolmpcdcaa
open Go.RowKit

theorem rowL_snoc (D : Nat → Nat) (n d : Nat) : rowL D n ++ [Value.int .u8 (d : Int)] = rowL (Dm.upd D n d) (n + 1) := by
  have e : [Value.int .u8 (d : Int)] = rowL (fun _ => d) 1 := rfl
  rw [e, rowL_append]
  refine rowL_congr fun j hj => ?_
  by_cases h : j < n
  · rw [if_pos h, Dm.upd_other (by omega)]
  · rw [if_neg h, show j = n by omega, Dm.upd_same]
theorem quo_step {D : Nat → Nat} {n d r r' N P k : Nat} (h : Dm.val D n * N + r = P * 10 ^ k) (hd : r * 10 / N = d) (hr : r * 10 % N = r') : Dm.val (Dm.upd D n d) (n + 1) * N + r' = P * 10 ^ (k + 1) := by
  rw [Dm.val, Dm.upd_same, Dm.val_congr (E := D) n (fun j hj => Dm.upd_other (by omega)), Dm.p10_succ]
  have e := Nat.div_add_mod (r * 10) N
  rw [hd, hr, Nat.mul_comm] at e
  rw [Nat.add_mul, Nat.mul_right_comm, show P * (10 * 10 ^ k) = P * 10 ^ k * 10 by rw [Nat.mul_comm 10, Nat.mul_assoc], ← h, Nat.add_mul]
  omega
theorem quo_first {a N : Nat} (ha : a < 1000000000000000000) : Dm.val (Dm.pd (a / N) 18) 18 * N + a % N = a * 10 ^ 0 := by
  have : a / N ≤ a := Nat.div_le_self _ _
  rw [Dm.val_pd (by omega)]
  have := Nat.div_add_mod a N
  rw [Nat.mul_comm] at this
  omega

set_option maxRecDepth 100000 in
set_option maxHeartbeats 1000000 in
theorem quotient_any (c1 x1 c2 x2 : Int) (w : World) (a1 : -1000000000000000000 < c1) (a2 : c1 < 1000000000000000000) (a3 : -40 ≤ x1) (a4 : x1 ≤ 40)
    (b1 : -1000000000000000000 < c2) (b2 : c2 < 1000000000000000000) (b3 : -40 ≤ x2) (b4 : x2 ≤ 40) (b0 : c2 ≠ 0) :
    Calls Try.prog 39 #[.agg #[.int .i64 c1, .int .i64 x1], .agg #[.int .i64 c2, .int .i64 x2]] w fun e w' => ∃ (g cap r : Nat) (D : Nat → Nat), e = .returned (.agg #[.bool (!(decide (c1 < 0) == decide (c2 < 0))), .slice (some ⟨g, 0, none⟩) 58 cap, .int .i64 (x1 - x2 - 40), .bool ((r : Int) != 0)]) ∧ 58 ≤ cap ∧ DS w' g 0 58 D ∧ Dm.val D 58 * c2.natAbs + r = c1.natAbs * 10 ^ 40 ∧ r < c2.natAbs ∧ Below w.heap.size w w' := by
  have SA := hide (fun wx => size_any c1 x1 wx a1 a2)
  have SB := hide (fun wx => size_any c2 x2 wx b1 b2)
  obtain ⟨i0, hi, hz0, hz1, hz2⟩ := info_parts info_u8
  have I0 := hide hi
  have I1 := hide hz0
  have I2 := hide hz1
  have I3 := hide hz2
  have n1 : c1.natAbs < 1000000000000000000 := by omega
  have n2 : c2.natAbs < 1000000000000000000 := by omega
  have n3 : 1 ≤ c2.natAbs := by omega
  clear hi hz0 hz1 hz2 b0
  go_enter Try.func39, Try.ntmps39
  go_upto_region 1 with fail
  go_cut [5, 6] from 8 (fun a b wc => a = .int .u64 (c1.natAbs : Int) ∧ b = .int .u64 (c2.natAbs : Int) ∧ Hid (Below (((w.alloc (.cells #[.int .i64 c1, .int .i64 x1] 23)).alloc (.cells #[.int .i64 c2, .int .i64 x2] 23)).alloc (.cells #[.bool false, .slice none 0 0, .int .i64 0, .bool false] 56)).heap.size (((w.alloc (.cells #[.int .i64 c1, .int .i64 x1] 23)).alloc (.cells #[.int .i64 c2, .int .i64 x2] 23)).alloc (.cells #[.bool false, .slice none 0 0, .int .i64 0, .bool false] 56)) wc))
  case first =>
    have f0 := frac3 (Below.refl (((w.alloc (.cells #[.int .i64 c1, .int .i64 x1] 23)).alloc (.cells #[.int .i64 c2, .int .i64 x2] 23)).alloc (.cells #[.bool false, .slice none 0 0, .int .i64 0, .bool false] 56)).heap.size (((w.alloc (.cells #[.int .i64 c1, .int .i64 x1] 23)).alloc (.cells #[.int .i64 c2, .int .i64 x2] 23)).alloc (.cells #[.bool false, .slice none 0 0, .int .i64 0, .bool false] 56)))
    obtain ⟨t0, t1, t2, t3, _⟩ := f0
    go_region_held2 (fun w' => w'.cell? ⟨w.heap.size, 0, none⟩ = some (.int .i64 c1) ∧ w'.cell? ⟨w.heap.size, 1, none⟩ = some (.int .i64 x1) ∧ w'.cell? ⟨w.heap.size + 1, 0, none⟩ = some (.int .i64 c2) ∧ w'.cell? ⟨w.heap.size + 1, 1, none⟩ = some (.int .i64 x2)) (go_keep) (first
      | (go_at_call_of 44 (Value.int IntKind.i64 c1); refine (unhide SA _).mono ?_; rintro e w1 ⟨rfl, hb1⟩; have hb1 := (Below.refl _ _).drew.trans hb1; obtain ⟨t0', t1', t2', t3', _⟩ := frac3 hb1)
      | (go_at_call_of 44 (Value.int IntKind.i64 c2); refine (unhide SB _).mono ?_; rintro e w2 ⟨rfl, hb2⟩; have hb2 := hb1.trans (hb2.mono hb1.size); obtain ⟨t0'', t1'', t2'', t3'', _⟩ := frac3 hb2))
    all_goals
      go_wp2_with fail
      go_meet
      case rel => exact ⟨rfl, rfl, hide hb2⟩
  case rest =>
    obtain ⟨rfl, rfl, HB⟩ := hcut
    have V0 := hide (quo_first (a := c1.natAbs) (N := c2.natAbs) n1)
    have E1 := Int.natCast_ediv c1.natAbs c2.natAbs
    have E2 := Int.natCast_emod c1.natAbs c2.natAbs
    have l1 : c1.natAbs / c2.natAbs ≤ c1.natAbs := Nat.div_le_self _ _
    have l2 : c1.natAbs % c2.natAbs < c2.natAbs := Nat.mod_lt _ n3
    generalize c1.natAbs / c2.natAbs = k0 at *
    generalize c1.natAbs % c2.natAbs = r0 at *
    generalize hA : c1.natAbs = N1 at *
    generalize hB : c2.natAbs = N2 at *
    have HA := hide hA
    have HC := hide hB
    have e1 := E1.symm
    have e2 := E2.symm
    clear hA hB E1 E2
    go_wp2_with fail
    refine (padded_any k0 18 _ (by omega) (by omega)).mono ?_
    rintro e w5 ⟨rfl, own5, hb5⟩
    have HB5 := hide ((unhide HB).trans (hb5.mono (unhide HB).size))
    have bs : wc.heap.size ≤ w5.heap.size := hb5.size
    have W0s := hide (unhide HB).size
    clear hb5
    go_wp2
    have eL : Value.int IntKind.u64 ((N1 : Int) % (N2 : Int)) = .int .u64 (r0 : Int) := by rw [e2]
    rw [eL]
    have O5 := hide own5
    clear eL own5 e1 e2
    go_loopw [5, 7, 19] (fun a v i wr => ∃ (k r : Nat) (D : Nat → Nat), k ≤ 40 ∧ i = .int .i64 (k : Int) ∧ a = .int .u64 (r : Int) ∧ r < N2 ∧ Hid (wr.ownsRow wc.heap.size 5 1 v (18 + k) (rowL D (18 + k))) ∧ Hid (∀ j, D j < 10) ∧ Hid (Dm.val D (18 + k) * N2 + r = N1 * 10 ^ k) ∧ Hid (Below (((w.alloc (.cells #[.int .i64 c1, .int .i64 x1] 23)).alloc (.cells #[.int .i64 c2, .int .i64 x2] 23)).alloc (.cells #[.bool false, .slice none 0 0, .int .i64 0, .bool false] 56)).heap.size (((w.alloc (.cells #[.int .i64 c1, .int .i64 x1] 23)).alloc (.cells #[.int .i64 c2, .int .i64 x2] 23)).alloc (.cells #[.bool false, .slice none 0 0, .int .i64 0, .bool false] 56)) wr) ∧ wc.heap.size ≤ wr.heap.size) (fun _ _ i _ => 40 - (intOf i).toNat)
    case atStart => exact ⟨0, r0, _, by omega, rfl, rfl, l2, O5, hide (Dm.pd_lt _ _), V0, HB5, bs⟩
    case round =>
      obtain ⟨k, r, D, hk, rfl, rfl, hr, O, HD, HV, HBr, bsr⟩ := hrel
      clear O5 V0 HB5 bs
      by_cases hlt : k < 40
      · obtain ⟨d, hd⟩ : ∃ d, r * 10 / N2 = d := ⟨_, rfl⟩
        obtain ⟨r', hr'⟩ : ∃ r', r * 10 % N2 = r' := ⟨_, rfl⟩
        have d9 : d < 10 := by rw [← hd]; exact Nat.div_lt_of_lt_mul (by omega)
        have rr : r' < N2 := by rw [← hr']; exact Nat.mod_lt _ n3
        have e1 : (r : Int) * 10 / (N2 : Int) = (d : Int) := by rw [← hd, Int.natCast_ediv, Int.natCast_mul]; rfl
        have e2 : (r : Int) * 10 % (N2 : Int) = (r' : Int) := by rw [← hr', Int.natCast_emod, Int.natCast_mul]; rfl
        have HV2 := hide (quo_step (unhide HV) hd hr')
        have HD2 := hide (Dm.upd_lt (unhide HD) d9 (18 + k))
        have m1 : Hid (18 + k + 1 ≤ maxLen) := hide (by unfold maxLen; omega)
        clear hd hr' HV HD
        go_wp2_with (at_builtin; refine wpList_append_own _ rfl _ _ 54 rfl wc.heap.size 5 i0 (.int .u8 0) 1 1 Try.underlying54 (unhide I0) (unhide I1) (unhide I2) (unhide I3) rfl (by decide) _ _ _ rfl ((unhide O).alloc _) ⟨wr.heap.size, 0, none⟩ 1 1 [.int .u8 (d : Int)] rfl rfl ?c1 ?c2 (unhide m1) ?c4 ?c5 ?_)
        case c1 => exact cell_one_new _ _ _
        case c2 => intro u hu; simp at hu; subst hu; rfl
        case c4 => omega
        case c5 => simp; omega
        intro v' w1 own' hgrow _
        rw [rowL_snoc] at own'
        have O1 := hide own'
        have HB1 := hide (((unhide HBr).alloc (unhide HBr).size _).grown hgrow (Nat.le_trans (unhide HBr).size (by simp)) (fun j hj => Nat.le_trans (unhide W0s) ((unhide O).lt j hj).1))
        have bs1 : wc.heap.size ≤ w1.heap.size := Nat.le_trans bsr (Nat.le_trans (by simp) hgrow.size)
        clear own' hgrow HBr O m1
        go_wp2
        go_roundw
        case rel => exact ⟨k + 1, r', _, by omega, by go_num, by rw [e2], rr, O1, HD2, HV2, HB1, bs1⟩
        case measure => simp [intOf]; omega
      · have hk4 : k = 40 := by omega
        subst hk4
        obtain ⟨g, cap, hv, hcap, hgb⟩ := own_shape (unhide O) (by omega)
        have D7 := unhide O
        rw [hv] at D7 ⊢
        have D8 := hide (DS.own D7 (unhide HD) (by omega))
        obtain ⟨t0, t1, t2, t3, q0, q1, q2, q3, f0, f1, f2, f3, hsz, hbw⟩ := frac3 (unhide HBr)
        have hs4 : w.heap.size + 1 + 1 + 1 ≤ wc.heap.size := by have := unhide W0s; simp at this; omega
        clear hv D7 O
        go_wp2
        refine bodyPost_ret (v := .agg #[.bool (!(decide (c1 < 0) == decide (c2 < 0))), .slice (some ⟨g, 0, none⟩) 58 cap, .int .i64 (x1 - x2 - 40), .bool ((r : Int) != 0)]) (by simp [results, Try.results39, go_sem, q0, q1, q2, q3]) rfl ?_
        refine ⟨g, cap, r, D, rfl, hcap, ((((unhide D8).setCell (by simp; omega) _).setCell (by simp; omega) _).setCell (by simp; omega) _).setCell (by simp; omega) _, ?_, ?_, (((hbw.setCell (by simp; omega) _).setCell (by simp; omega) _).setCell (by simp; omega) _).setCell (by simp; omega) _⟩
        · rw [unhide HA, unhide HC]; exact unhide HV
        · rw [unhide HC]; exact hr
end Go.Proofs.Ytibkemolmpcdcaa

/- Walks: Div. -/
namespace Go.Proofs.Ytibkemolmpcdcaa
open Go.RowKit

/-- what is told of the digits N, of which perhaps more follow, times 10^x -/
def toldB (B : Bool) (N : Nat) (x : Int) (R : Bool) : Ending := .returned (.tuple #[.agg #[.int .i64 (Dm.fC (Dm.sg B (Dm.nQ N x R)) (Dm.nE N x)), .int .i64 (Dm.fE (Dm.sg B (Dm.nQ N x R)) (Dm.nE N x))], .int .i64 (Dm.fR (Dm.sg B (Dm.nQ N x R)) (Dm.nE N x))])

set_option maxHeartbeats 400000 in
theorem div_no (c1 x1 c2 x2 : Int) (w : World) (h : (Dm.wrong2 c1 x1 c2 x2 != 0) = true) :
    Calls Try.prog 10 #[.agg #[.int .i64 c1, .int .i64 x1], .agg #[.int .i64 c2, .int .i64 x2]] w fun e w' => e = .returned (.tuple #[.agg #[.int .i64 0, .int .i64 0], .int .i64 (Dm.wrong2 c1 x1 c2 x2)]) ∧ Below w.heap.size w w' := by
  go_enter Try.func10, Try.ntmps10
  go_wp2_with fail
  refine (wrongOf_any c1 x1 c2 x2 _).mono ?_
  rintro e w1 ⟨rfl, hb⟩
  obtain ⟨t0, t1, t2, t3, t4, t5, f0, f1, hz, hbw⟩ := three_cells hb
  go_wp2
  exact bodyPost_ret (v := .tuple #[.agg #[.int .i64 0, .int .i64 0], .int .i64 (Dm.wrong2 c1 x1 c2 x2)]) (by simp [results, Try.results10, go_sem, t4, t5]) rfl ⟨rfl, (hbw.setCell (by simp; omega) _).setCell (by simp; omega) _⟩

set_option maxHeartbeats 400000 in
theorem div_zero (c1 x1 x2 : Int) (w : World) (h1 : Dm.wrongN c1 x1 = 0) (h2 : Dm.wrongN 0 x2 = 0) :
    Calls Try.prog 10 #[.agg #[.int .i64 c1, .int .i64 x1], .agg #[.int .i64 0, .int .i64 x2]] w fun e w' => e = .returned (.tuple #[.agg #[.int .i64 0, .int .i64 0], .int .i64 10]) ∧ Below w.heap.size w w' := by
  have H := hide ((Dm.wrong2_ok h1 0 x2).trans h2)
  clear h1 h2
  go_enter Try.func10, Try.ntmps10
  go_wp2_with fail
  refine (wrongOf_any c1 x1 0 x2 _).mono ?_
  rintro e w1 ⟨rfl, hb⟩
  obtain ⟨t0, t1, t2, t3, t4, t5, f0, f1, hz, hbw⟩ := three_cells hb
  rw [unhide H]
  go_wp2
  exact bodyPost_ret (v := .tuple #[.agg #[.int .i64 0, .int .i64 0], .int .i64 10]) (by simp [results, Try.results10, go_sem, t4, t5]) rfl ⟨rfl, (hbw.setCell (by simp; omega) _).setCell (by simp; omega) _⟩

set_option maxHeartbeats 400000 in
theorem div_ok (c1 x1 c2 x2 : Int) (w : World) (h1 : Dm.wrongN c1 x1 = 0) (h2 : Dm.wrongN c2 x2 = 0) (h0 : c2 ≠ 0) :
    Calls Try.prog 10 #[.agg #[.int .i64 c1, .int .i64 x1], .agg #[.int .i64 c2, .int .i64 x2]] w fun e w' => ∃ r : Nat, e = toldB (!(decide (c1 < 0) == decide (c2 < 0))) (c1.natAbs * 10 ^ 40 / c2.natAbs) (x1 - x2 - 40) ((r : Int) != 0) ∧ r = c1.natAbs * 10 ^ 40 % c2.natAbs ∧ Below w.heap.size w w' := by
  obtain ⟨p1, p2, p3, p4, _⟩ := Dm.wrong_ok h1
  obtain ⟨q1, q2, q3, q4, _⟩ := Dm.wrong_ok h2
  have H := hide ((Dm.wrong2_ok h1 c2 x2).trans h2)
  have H0 := hide h0
  have n0 : (c2 == 0) = false := by simp [h0]
  clear h1 h2 h0
  go_enter Try.func10, Try.ntmps10
  go_wp2_with fail
  refine (wrongOf_any c1 x1 c2 x2 _).mono ?_
  rintro e w1 ⟨rfl, hb⟩
  obtain ⟨t0, t1, t2, t3, t4, t5, f0, f1, hz, hbw⟩ := three_cells hb
  rw [unhide H]
  go_wp2_with fail
  refine (quotient_any c1 x1 c2 x2 _ p1 p2 p3 p4 q1 q2 q3 q4 (unhide H0)).mono ?_
  rintro e w2 ⟨g, cap, r, D, rfl, hcap, hD, hv, hr, hb2⟩
  have NZ : Hid (Dm.val D 58 = c1.natAbs * 10 ^ 40 / c2.natAbs ∧ r = c1.natAbs * 10 ^ 40 % c2.natAbs) := hide (by
    rw [← hv, Nat.mul_comm]
    exact ⟨by rw [Nat.mul_add_div (by omega), Nat.div_eq_of_lt hr, Nat.add_zero], by rw [Nat.mul_add_mod, Nat.mod_eq_of_lt hr]⟩)
  have hD' := hide hD
  have hb3 := hb.trans (hb2.mono hb.size)
  clear hv hr hD t0 t1 t2 t3 t4 t5 f0 f1 hz hbw
  generalize hB : (!(decide (c1 < 0) == decide (c2 < 0))) = B at *
  generalize hR : ((r : Int) != 0) = R at *
  have HB := hide hB
  have HR := hide hR
  clear hB hR
  go_wp2_with fail
  refine (dnearest_any B R g 0 58 cap (x1 - x2 - 40) D _ (unhide hD') hcap (by omega) (by omega) (by omega)).mono ?_
  rintro e w3 ⟨rfl, hb4⟩
  obtain ⟨t0, t1, t2, t3, t4, t5, f0, f1, hz, hbw⟩ := three_cells (hb3.trans (hb4.mono hb3.size))
  rw [(unhide NZ).1]
  clear hb4 hb3 hb2 hb
  generalize hN : c1.natAbs * 10 ^ 40 / c2.natAbs = N at *
  have HN := hide hN
  clear hN
  go_wp2
  exact bodyPost_ret (v := .tuple #[.agg #[.int .i64 (Dm.fC (Dm.sg B (Dm.nQ N (x1 - x2 - 40) R)) (Dm.nE N (x1 - x2 - 40))), .int .i64 (Dm.fE (Dm.sg B (Dm.nQ N (x1 - x2 - 40) R)) (Dm.nE N (x1 - x2 - 40)))], .int .i64 (Dm.fR (Dm.sg B (Dm.nQ N (x1 - x2 - 40) R)) (Dm.nE N (x1 - x2 - 40)))]) (by simp [results, Try.results10, go_sem, t4, t5]) rfl ⟨r, by rw [unhide HB, unhide HR, unhide HN]; rfl, (unhide NZ).2, (hbw.setCell (by simp; omega) _).setCell (by simp; omega) _⟩
end Go.Proofs.Ytibkemolmpcdcaa
