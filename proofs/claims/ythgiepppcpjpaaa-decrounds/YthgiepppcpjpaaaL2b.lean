/- The walk over DecRounds, whatever the number and the places. -/
import Derived.Test.YthgiepppcpjpaaaL2
import Derived.Test.YthgiepppcpjpaaaL1b
import Derived.Test.YthgiepppcpjpaaaW15
import Derived.Test.YthgiepppcpjpaaaW17
namespace Dm
theorem sc_zero (s : Int) : sc 0 s false = 0 := by
  unfold sc
  split
  · simp
  · unfold rnd up
    rw [Nat.zero_mod, Nat.zero_div]
    rw [if_neg (by simp)]
theorem fR_cases (C y : Int) : fR C y = 0 ∨ fR C y = 4 := by
  unfold fR
  split
  · left; rfl
  · split
    · right; rfl
    · left; rfl
theorem sg_bd {B : Bool} {q : Nat} (h : q ≤ 1000000000000000000) : -1000000000000000000 ≤ sg B q ∧ sg B q ≤ 1000000000000000000 := by
  unfold sg; split <;> omega
theorem round_bd (c x p : Int) (h1 : -1000000000000000000 < c) (h2 : c < 1000000000000000000) (hx : x < -p) : sc c.natAbs (x - -p) false ≤ 1000000000000000000 := by
  have := sc_le (D := pd c.natAbs 18) (pd_lt _ _) (n := 18) (x := x) (y := -p) false (by omega)
  rw [val_pd (N := c.natAbs) (W := 18) (by omega)] at this
  exact this
theorem floor_V {c x fl : Int} (hx1 : -40 ≤ x) (hx2 : x < 0) : (tens fl (-x).toNat ≤ c → tens fl 40 ≤ V c x) ∧ (c ≤ tens fl (-x).toNat → V c x ≤ tens fl 40) := by
  have e : tens fl 40 = tens (tens fl (-x).toNat) (x + 40).toNat := by rw [tens_add]; congr 1; omega
  unfold V
  rw [e]
  exact ⟨fun h => tens_le_tens h _, fun h => tens_le_tens h _⟩
theorem sgn_le {a : Int} (h : a ≤ 0) : sgn a ≤ 0 := by
  unfold sgn; split
  · omega
  · split <;> omega
end Dm
namespace Go.Proofs.Ythgiepppcpjpaaa
open Go.RowKit

theorem round_again (r1 r2 p : Int) (h : Dm.wrongN r1 r2 = 0) (h1 : r1 ≠ 0 → -p ≤ r2) (h0 : r1 = 0 → r2 = 0) (hp1 : -40 ≤ p) (hp2 : p ≤ 40) : One 14 r1 r2 [.int .i64 p] r1 r2 0 := by
  intro wx
  by_cases g : -p ≤ r2
  · exact round_same r1 r2 p wx h hp1 hp2 g
  · have e1 : r1 = 0 := by
      by_cases q : r1 = 0
      · exact q
      · exact absurd (h1 q) g
    have e2 := h0 e1
    subst e1 e2
    have := round_some 0 0 p wx h hp1 hp2 (by omega)
    rw [show Dm.sc (Int.natAbs 0) (0 - -p) false = 0 from Dm.sc_zero _] at this
    exact this

theorem told_one : told 1 0 false = .returned (.tuple #[.agg #[.int .i64 1, .int .i64 0], .int .i64 0]) := by
  have a : Dm.fC (Dm.nearZ 1 0 false) (Dm.nE (Int.natAbs 1) 0) = 1 := by decide +kernel
  have b : Dm.fE (Dm.nearZ 1 0 false) (Dm.nE (Int.natAbs 1) 0) = 0 := by decide +kernel
  have c : Dm.fR (Dm.nearZ 1 0 false) (Dm.nE (Int.natAbs 1) 0) = 0 := by decide +kernel
  unfold told
  rw [a, b, c]

/-- what Floor, Ceil and their difference come to -/
theorem rounds_end (c x p : Int) (w : World) (h : Dm.wrongN c x = 0) (r1 r2 r3 : Int)
    (RO : One 14 c x [.int .i64 p] r1 r2 r3) (RA : r3 = 0 → One 14 r1 r2 [.int .i64 p] r1 r2 0 ∧ (r1 ≠ 0 → -p ≤ r2) ∧ -1000 ≤ p ∧ p ≤ 1000) (RB : r3 ≠ 0 → r3 = 4 ∨ p < -40 ∨ 40 < p) :
    Calls Try.prog 6 #[.agg #[.int .i64 c, .int .i64 x], .int .i64 p] w fun e w' => e = .returned (.bool true) ∧ Below w.heap.size w w' := by
  obtain ⟨p1, p2, p3, p4, p5⟩ := Dm.wrong_ok h
  by_cases hx : 0 ≤ x
  · exact rounds_core c x p w h r1 r2 r3 RO RA RB c x c x _ _ _ _ _ (fun wx => floor_pos c x wx h hx) (fun wx => ceil_pos c x wx h hx) (fun wx => cmp_ok c x c x wx h h) (fun wx => cmp_ok c x c x wx h h) (fun wx => sub_ok c x c x wx h h)
      (Dm.sgn_le (by omega)) (Dm.sgn_le (by omega)) hx hx (.inl ⟨rfl, rfl, rfl, rfl⟩)
  · have hx' : x < 0 := by omega
    have hc : c ≠ 0 := fun q => by have := p5 (by rw [q]; rfl); omega
    obtain ⟨⟨f1, f2⟩, ⟨g1, g2⟩⟩ := Dm.fl_bd p1 p2 (-x).toNat
    obtain ⟨e1, e2, e3⟩ := Dm.fl_spec hc (-x).toNat
    have FL := fun wx => floor_neg c x wx h hx'
    have CE := fun wx => ceil_neg c x wx h hx'
    generalize Dm.flW c (-x).toNat = fl at *
    generalize Dm.ceW c (-x).toNat = ce at *
    obtain ⟨a1, a2, a3, a4, a5, a6⟩ := Dm.whole_told f1 (by omega)
    obtain ⟨b1, b2, b3, b4, b5, b6⟩ := Dm.whole_told (by omega) g2
    rw [a1] at FL
    rw [b1] at CE
    obtain ⟨o1, o2⟩ := Dm.one_between f1 (by omega) (by omega) g2 e1
    have SB := fun wx => sub_ok (Dm.fC ce 0) (Dm.fE ce 0) (Dm.fC fl 0) (Dm.fE fl 0) wx b2 a2
    rw [o1, o2, told_one] at SB
    refine rounds_core c x p w h r1 r2 r3 RO RA RB _ _ _ _ _ _ _ _ _ FL CE (fun wx => cmp_ok _ _ c x wx a2 h) (fun wx => cmp_ok c x _ _ wx h b2) SB (Dm.sgn_le ?_) (Dm.sgn_le ?_) a4 b4 (.inr ⟨?_, rfl, rfl⟩)
    · have := (Dm.floor_V (c := c) (fl := fl) p3 hx').1 e2
      rw [a3]; omega
    · have := (Dm.floor_V (c := c) (fl := ce) p3 hx').2 e3
      rw [b3]; omega
    · rintro ⟨q1, q2⟩
      rw [q1, q2, b3] at a3
      have := @Dm.tens_lt_tens fl ce (by omega) 40
      omega

set_option maxHeartbeats 400000 in
theorem rounds_bad (c x p : Int) (w : World) (h : ¬ Dm.wrongN c x = 0) :
    Calls Try.prog 6 #[.agg #[.int .i64 c, .int .i64 x], .int .i64 p] w fun e w' => e = .returned (.bool true) ∧ Below w.heap.size w w' := by
  have n1 := bne_of h
  clear h
  go_enter Try.func6, Try.ntmps6
  go_wp2_with fail
  refine (alive_any _).mono ?_
  rintro e w1 ⟨rfl, hb1⟩
  obtain ⟨t0, t1, t2⟩ := carry2 (nb := w.heap.size) hb1 (by simp) (by simp [go_sem]; rfl) (by simp [go_sem]; rfl)
  have hw1 : Below w.heap.size w w1 := ((Below.refl w.heap.size w).alloc (Nat.le_refl _) _).trans (hb1.mono (by simp))
  go_wp2_with fail
  refine (wrong_any c x _).mono ?_
  rintro e w2 ⟨rfl, hb2⟩
  have hw2 := hw1.trans (hb2.mono hw1.size)
  go_wp2
  go_ret
  exact ⟨rfl, hw2⟩

theorem rounds_walk (c x p : Int) (w : World) :
    Calls Try.prog 6 #[.agg #[.int .i64 c, .int .i64 x], .int .i64 p] w fun e w' => e = .returned (.bool true) ∧ Below w.heap.size w w' := by
  by_cases h : Dm.wrongN c x = 0
  · obtain ⟨p1, p2, p3, p4, p5⟩ := Dm.wrong_ok h
    by_cases hp : p < -40 ∨ 40 < p
    · exact rounds_end c x p w h 0 0 3 (fun wx => round_far c x p wx h hp) (fun q => by omega) (fun _ => .inr hp)
    · by_cases hx : -p ≤ x
      · exact rounds_end c x p w h c x 0 (fun wx => round_same c x p wx h (by omega) (by omega) hx) (fun _ => ⟨fun wx => round_same c x p wx h (by omega) (by omega) hx, fun _ => hx, by omega, by omega⟩) (fun q => absurd rfl q)
      · have RO := fun wx => round_some c x p wx h (by omega) (by omega) (by omega)
        have bd := Dm.sg_bd (B := decide (c < 0)) (Dm.round_bd c x p p1 p2 (by omega))
        generalize Dm.sg (decide (c < 0)) (Dm.sc c.natAbs (x - -p) false) = C at *
        refine rounds_end c x p w h _ _ _ RO (fun q => ?_) (fun q => ?_)
        · obtain ⟨t1, t2, t3⟩ := Dm.round_told bd.1 bd.2 (by omega) q
          exact ⟨round_again _ _ p t1 t2 t3 (by omega) (by omega), t2, by omega, by omega⟩
        · rcases Dm.fR_cases C (-p) with g | g
          · exact absurd g q
          · exact .inl g
  · exact rounds_bad c x p w h
end Go.Proofs.Ythgiepppcpjpaaa
