/- Walks: nearest. -/
import Derived.Test.YtcidbhegnnedoaaGreatDoorG05
import Derived.Test.YtcidbhegnnedoaaGreatDoorG04
import Derived.Test.YtcidbhegnnedoaaGreatDoorG01
import GoSem.Op.String
import Derived.Test.YtcidbhegnnedoaaGreatDoorProg
import Derived.ProofKit
import Derived.OpenShut
import Derived.ChangeOld
import Derived.Lib.SmallJoins
import Derived.Carry
namespace Go.Proofs.YtcidbhegnnedoaaGreatDoor
open Go.RowKit

/-- behind nearest's first statement: the noughts ahead are cut off -/
def NearRel (B R : Bool) (b n cap : Nat) (x : Int) (D : Nat → Nat) (w wc : World) : Prop :=
  ∃ z off' : Nat, Hid (z ≤ n ∧ (∀ j, j < z → D j = 0) ∧ (z < n → D z ≠ 0) ∧ DS wc b off' (n - z) (fun j => D (z + j))) ∧ wc.cell? ⟨w.heap.size, 0, none⟩ = some (.bool B) ∧ wc.cell? ⟨w.heap.size, 1, none⟩ = some (.slice (some ⟨b, off', none⟩) (n - z) (cap - z)) ∧ wc.cell? ⟨w.heap.size, 2, none⟩ = some (.int .i64 x) ∧ wc.cell? ⟨w.heap.size, 3, none⟩ = some (.bool R) ∧ wc.cell? ⟨w.heap.size + 1, 0, none⟩ = some (.int .i64 0) ∧ wc.cell? ⟨w.heap.size + 1, 1, none⟩ = some (.int .i64 0) ∧ wc.frozen? ⟨w.heap.size + 1, 0, none⟩ = false ∧ wc.frozen? ⟨w.heap.size + 1, 1, none⟩ = false ∧ w.heap.size + 2 ≤ wc.heap.size ∧ Below w.heap.size w wc

theorem near_rel {B R : Bool} {b off n cap : Nat} {x : Int} {D : Nat → Nat} {w : World} (hD : DS w b off n D) {z : Nat} (hz : z ≤ n) (hcap : n ≤ cap) (hz0 : ∀ j, j < z → D j = 0) (hz1 : z < n → D z ≠ 0) {ao : Option Addr} (hao : (if cap = z then some ({ block := b, off := off } : Addr) else some { block := b, off := off + z }) = ao) :
    NearRel B R b n cap x D w ((w.alloc (Obj.cells #[Value.bool B, Value.slice ao (n - z) (cap - z), Value.int IntKind.i64 x, Value.bool R] 179)).alloc (Obj.cells #[Value.int IntKind.i64 0, Value.int IntKind.i64 0] 23)).drew := by
  have hb : Below w.heap.size w ((w.alloc (Obj.cells #[Value.bool B, Value.slice ao (n - z) (cap - z), Value.int IntKind.i64 x, Value.bool R] 179)).alloc (Obj.cells #[Value.int IntKind.i64 0, Value.int IntKind.i64 0] 23)).drew :=
    (((Below.refl w.heap.size w).alloc (Nat.le_refl _) _).alloc (by simp) _).drew
  by_cases h : cap = z
  · rw [if_pos h] at hao
    subst hao
    refine ⟨z, off, hide ⟨hz, hz0, hz1, (hD.below hb).empty off (fun j => hD.dig _) (by omega)⟩, by simp [go_sem], by simp [go_sem], by simp [go_sem], by simp [go_sem], by simp [go_sem], by simp [go_sem], by simp [go_sem], by simp [go_sem], by simp, hb⟩
  · rw [if_neg h] at hao
    subst hao
    refine ⟨z, off + z, hide ⟨hz, hz0, hz1, (hD.below hb).drop z hz⟩, by simp [go_sem], by simp [go_sem], by simp [go_sem], by simp [go_sem], by simp [go_sem], by simp [go_sem], by simp [go_sem], by simp [go_sem], by simp, hb⟩

theorem cells_below {wc w1 : World} {h : Nat} {v0 v1 v2 v3 r0 r1 : Value} (hb : Below wc.drew.heap.size wc.drew w1) (hsz : h + 2 ≤ wc.heap.size)
    (c0 : wc.cell? ⟨h, 0, none⟩ = some v0) (c1 : wc.cell? ⟨h, 1, none⟩ = some v1) (c2 : wc.cell? ⟨h, 2, none⟩ = some v2) (c3 : wc.cell? ⟨h, 3, none⟩ = some v3)
    (d0 : wc.cell? ⟨h + 1, 0, none⟩ = some r0) (d1 : wc.cell? ⟨h + 1, 1, none⟩ = some r1) (f0 : wc.frozen? ⟨h + 1, 0, none⟩ = false) (f1 : wc.frozen? ⟨h + 1, 1, none⟩ = false) :
    w1.cell? ⟨h, 0, none⟩ = some v0 ∧ w1.cell? ⟨h, 1, none⟩ = some v1 ∧ w1.cell? ⟨h, 2, none⟩ = some v2 ∧ w1.cell? ⟨h, 3, none⟩ = some v3 ∧
    w1.cell? ⟨h + 1, 0, none⟩ = some r0 ∧ w1.cell? ⟨h + 1, 1, none⟩ = some r1 ∧ w1.frozen? ⟨h + 1, 0, none⟩ = false ∧ w1.frozen? ⟨h + 1, 1, none⟩ = false ∧ h + 2 ≤ w1.heap.size := by
  have e : wc.drew.heap.size = wc.heap.size := rfl
  refine ⟨(hb.cell (p := ⟨h, 0, none⟩) (by show h < _; omega)).trans c0, (hb.cell (p := ⟨h, 1, none⟩) (by show h < _; omega)).trans c1, (hb.cell (p := ⟨h, 2, none⟩) (by show h < _; omega)).trans c2, (hb.cell (p := ⟨h, 3, none⟩) (by show h < _; omega)).trans c3,
    (hb.cell (p := ⟨h + 1, 0, none⟩) (by show h + 1 < _; omega)).trans d0, (hb.cell (p := ⟨h + 1, 1, none⟩) (by show h + 1 < _; omega)).trans d1, (hb.frozen (p := ⟨h + 1, 0, none⟩) (by show h + 1 < _; omega)).trans f0, (hb.frozen (p := ⟨h + 1, 1, none⟩) (by show h + 1 < _; omega)).trans f1, by have := hb.size; omega⟩

theorem cells_below0 {wc w1 : World} {h : Nat} {v0 v1 v2 v3 r0 r1 : Value} (hb : Below wc.heap.size wc w1) (hsz : h + 2 ≤ wc.heap.size)
    (c0 : wc.cell? ⟨h, 0, none⟩ = some v0) (c1 : wc.cell? ⟨h, 1, none⟩ = some v1) (c2 : wc.cell? ⟨h, 2, none⟩ = some v2) (c3 : wc.cell? ⟨h, 3, none⟩ = some v3)
    (d0 : wc.cell? ⟨h + 1, 0, none⟩ = some r0) (d1 : wc.cell? ⟨h + 1, 1, none⟩ = some r1) (f0 : wc.frozen? ⟨h + 1, 0, none⟩ = false) (f1 : wc.frozen? ⟨h + 1, 1, none⟩ = false) :
    w1.cell? ⟨h, 0, none⟩ = some v0 ∧ w1.cell? ⟨h, 1, none⟩ = some v1 ∧ w1.cell? ⟨h, 2, none⟩ = some v2 ∧ w1.cell? ⟨h, 3, none⟩ = some v3 ∧
    w1.cell? ⟨h + 1, 0, none⟩ = some r0 ∧ w1.cell? ⟨h + 1, 1, none⟩ = some r1 ∧ w1.frozen? ⟨h + 1, 0, none⟩ = false ∧ w1.frozen? ⟨h + 1, 1, none⟩ = false ∧ h + 2 ≤ w1.heap.size := by
  refine ⟨(hb.cell (p := ⟨h, 0, none⟩) (by show h < _; omega)).trans c0, (hb.cell (p := ⟨h, 1, none⟩) (by show h < _; omega)).trans c1, (hb.cell (p := ⟨h, 2, none⟩) (by show h < _; omega)).trans c2, (hb.cell (p := ⟨h, 3, none⟩) (by show h < _; omega)).trans c3,
    (hb.cell (p := ⟨h + 1, 0, none⟩) (by show h + 1 < _; omega)).trans d0, (hb.cell (p := ⟨h + 1, 1, none⟩) (by show h + 1 < _; omega)).trans d1, (hb.frozen (p := ⟨h + 1, 0, none⟩) (by show h + 1 < _; omega)).trans f0, (hb.frozen (p := ⟨h + 1, 1, none⟩) (by show h + 1 < _; omega)).trans f1, by have := hb.size; omega⟩

set_option maxHeartbeats 1000000 in
theorem dnearest_any (B R : Bool) (b off n cap : Nat) (x : Int) (D : Nat → Nat) (w : World) (hD : DS w b off n D) (hcap : n ≤ cap) (hn : n ≤ 100) (hx1 : -200 ≤ x) (hx2 : x ≤ 100) :
    Calls Tryz.prog 105 #[.agg #[.bool B, .slice (some ⟨b, off, none⟩) n cap, .int .i64 x, .bool R]] w fun e w' => e = .returned (.tuple #[.agg #[.int .i64 (Dm.fC (Dm.sg B (Dm.nQ (Dm.val D n) x R)) (Dm.nE (Dm.val D n) x)), .int .i64 (Dm.fE (Dm.sg B (Dm.nQ (Dm.val D n) x R)) (Dm.nE (Dm.val D n) x))], .int .i64 (Dm.fR (Dm.sg B (Dm.nQ (Dm.val D n) x R)) (Dm.nE (Dm.val D n) x))]) ∧ Below w.heap.size w w' := by
  have hblk := hD.blk
  have hbw := ((Below.refl w.heap.size w).alloc (Nat.le_refl _) (.cells #[.bool B, .slice (some ⟨b, off, none⟩) n cap, .int .i64 x, .bool R] 179)).alloc (by simp) (.cells #[.int .i64 0, .int .i64 0] 23)
  have hbw' := hide hbw
  have hD2 := hide (hD.below hbw)
  clear hbw
  go_enter Tryz.func105, Tryz.ntmps105
  go_upto_region 1 with fail
  go_cut [] from 5 (fun wc => NearRel B R b n cap x D w wc)
  case first =>
    go_region_with (go_at_call 112; refine (noughts_any b off n cap D _ ?_).mono ?_; exact (unhide hD2).below (Below.refl _ _).drew; rintro e w1 ⟨z, rfl, hz, hz0, hz1, rfl⟩)
    all_goals
      generalize hao : (if cap = z then some ({ block := b, off := off } : Addr) else some { block := b, off := off + z }) = ao
      have Hao := hide hao
      clear hao
      go_wp2_with fail
      go_meet
      case rel => exact near_rel hD hz hcap hz0 hz1 (unhide Hao)
  case rest =>
    obtain ⟨z, off', H, c0, c1, c2, c3, d0, d1, f0, f1, hsz, hbel⟩ := hcut
    have hz := (unhide H).1
    go_upto_region 3 with fail
    generalize hy : (if -40 < x + ((n - z : Nat) : Int) - 18 then x + ((n - z : Nat) : Int) - 18 else -40) = y
    obtain ⟨q, hq⟩ : ∃ q, q = Dm.sc (Dm.val (fun j => D (z + j)) (n - z)) (x - y) R := ⟨_, rfl⟩
    obtain ⟨y1, y2, y3, hq2, ey, eq⟩ := Dm.near_facts hD.dig R hn hx1 hx2 hz (unhide H).2.1 (unhide H).2.2.1 hy hq
    have WC := hide (fun wx (h : DS wx b off' (n - z) (fun j => D (z + j))) => wholeAt_any B R b off' (n - z) (cap - z) x y _ wx h (by omega) (by omega) (by omega) (by omega) (by omega) y3)
    rw [← hq] at WC
    have EQ := hide eq
    have EY := hide ey
    clear hy hq ey eq y3
    go_region_with (first
      | (go_at_call 114; refine (unhide WC _ ?_).mono ?_; exact (unhide H).2.2.2.below (Below.refl _ _).drew; rintro e w1 ⟨rfl, hb1⟩; obtain ⟨c0', c1', c2', c3', d0', d1', f0', f1', hsz'⟩ := cells_below hb1 hsz c0 c1 c2 c3 d0 d1 f0 f1)
      | (go_at_call 113; refine (number_any B R _ x ⟨_, _, _, rfl⟩ q y _ hq2 y1 y2).mono ?_; rintro e w2 ⟨rfl, hb2⟩; obtain ⟨c0'', c1'', c2'', c3'', d0'', d1'', f0'', f1'', hsz''⟩ := cells_below0 hb2 hsz' c0' c1' c2' c3' d0' d1' f0' f1'))
    all_goals
      go_wp2
      refine bodyPost_ret (v := .tuple #[.agg #[.int .i64 (Dm.fC (Dm.sg B q) y), .int .i64 (Dm.fE (Dm.sg B q) y)], .int .i64 (Dm.fR (Dm.sg B q) y)]) (by simp [results, Tryz.results105, go_sem, d0'', d1'']) rfl ⟨?_, ?_⟩
      · rw [unhide EQ, unhide EY]
      · have e1 : Below w.heap.size w w1 := (hbel.drew).trans (hb1.mono (by simp; omega))
        have e2 : Below w.heap.size w w2 := e1.trans (hb2.mono (by omega))
        exact (e2.setCell (by simp) _).setCell (by simp) _
end Go.Proofs.YtcidbhegnnedoaaGreatDoor

/- Plain facts on cutting digits off, and on what is rounded: no Go in sight. -/
namespace Dm

/-- k digits cut off, towards 0 -/
def tq (c : Int) : Nat → Int
  | 0 => c
  | k + 1 => (tq c k).tdiv 10
theorem tdiv10 (c : Int) : (0 ≤ c → c.tdiv 10 = c / 10) ∧ (c ≤ 0 → c.tdiv 10 = -((-c) / 10)) := by
  refine ⟨fun h => Int.tdiv_eq_ediv_of_nonneg h, fun h => ?_⟩
  have e := Int.neg_tdiv (a := -c) (b := 10)
  rw [Int.neg_neg] at e
  rw [e, Int.tdiv_eq_ediv_of_nonneg (by omega)]
theorem tq_spec (c : Int) : ∀ k, (0 ≤ c → 0 ≤ tq c k ∧ tens (tq c k) k ≤ c ∧ c < tens (tq c k + 1) k) ∧ (c ≤ 0 → tq c k ≤ 0 ∧ c ≤ tens (tq c k) k ∧ tens (tq c k - 1) k < c)
  | 0 => by simp only [tq, tens]; omega
  | k + 1 => by
    obtain ⟨a, b⟩ := tq_spec c k
    obtain ⟨p, q⟩ := tdiv10 (tq c k)
    have t1 : ∀ v : Int, tens v (k + 1) = tens (v * 10) k := by intro v; rw [show k + 1 = 1 + k by omega, ← tens_add]; rfl
    have m := @tens_le_tens
    refine ⟨fun h => ?_, fun h => ?_⟩
    · obtain ⟨a1, a2, a3⟩ := a h
      rw [tq, p a1, t1, t1]
      have l1 := @tens_le_tens (tq c k / 10 * 10) (tq c k) (by omega) k
      have l2 := @tens_le_tens (tq c k + 1) ((tq c k / 10 + 1) * 10) (by omega) k
      omega
    · obtain ⟨b1, b2, b3⟩ := b h
      rw [tq, q b1, t1, t1]
      have l1 := @tens_le_tens (tq c k) (-(-tq c k / 10) * 10) (by omega) k
      have l2 := @tens_le_tens ((-(-tq c k / 10) - 1) * 10) (tq c k - 1) (by omega) k
      omega
theorem tq_bd {c : Int} (h1 : -1000000000000000000 < c) (h2 : c < 1000000000000000000) (k : Nat) : -1000000000000000000 < tq c k ∧ tq c k < 1000000000000000000 := by
  induction k with
  | zero => exact ⟨h1, h2⟩
  | succ k ih =>
    obtain ⟨p, q⟩ := tdiv10 (tq c k)
    rw [tq]
    rcases Int.le_total 0 (tq c k) with g | g
    · rw [p g]; omega
    · rw [q g]; omega

def flW (c : Int) (k : Nat) : Int := if c < 0 then tq c k - 1 else tq c k
def ceW (c : Int) (k : Nat) : Int := if 0 < c then tq c k + 1 else tq c k

theorem fl_spec {c : Int} (h0 : c ≠ 0) (k : Nat) : ceW c k = flW c k + 1 ∧ tens (flW c k) k ≤ c ∧ c ≤ tens (ceW c k) k := by
  obtain ⟨a, b⟩ := tq_spec c k
  rcases Int.lt_trichotomy c 0 with g | g | g
  · obtain ⟨b1, b2, b3⟩ := b (by omega)
    have e1 : flW c k = tq c k - 1 := by unfold flW; rw [if_pos g]
    have e2 : ceW c k = tq c k := by unfold ceW; rw [if_neg (by omega)]
    rw [e1, e2]
    refine ⟨by omega, by omega, b2⟩
  · exact absurd g h0
  · obtain ⟨a1, a2, a3⟩ := a (by omega)
    have e1 : flW c k = tq c k := by unfold flW; rw [if_neg (by omega)]
    have e2 : ceW c k = tq c k + 1 := by unfold ceW; rw [if_pos g]
    rw [e1, e2]
    refine ⟨by omega, a2, by omega⟩
theorem fl_bd {c : Int} (h1 : -1000000000000000000 < c) (h2 : c < 1000000000000000000) (k : Nat) : (-1000000000000000000 ≤ flW c k ∧ flW c k < 1000000000000000000) ∧ (-1000000000000000000 < ceW c k ∧ ceW c k ≤ 1000000000000000000) := by
  have t := tq_bd h1 h2 k
  unfold flW ceW
  split <;> split <;> omega

theorem tz_le {c : Int} (hc : c ≠ 0) (hl : (c.natAbs : Int) ≤ 1000000000000000000) : tz c ≤ 18 := by
  obtain ⟨a, b⟩ := tz_of hc hl
  rcases Nat.lt_or_ge 18 (tz c) with g | g
  · exfalso
    have t0 : tc c ≠ 0 := by intro z; rw [z] at b; exact b rfl
    have m := tens_mono (n := 1) (by omega) (show 19 ≤ tz c by omega)
    rw [tens_1_19] at m
    rcases Int.lt_trichotomy (tc c) 0 with q | q | q
    · have u := tens_le (n := -(tc c)) (by omega) (tz c)
      rw [tens_neg] at u
      omega
    · exact t0 q
    · have u := tens_le (n := tc c) (by omega) (tz c)
      omega
  · exact g

/-- what is told of a whole number that is not too great -/
theorem whole_told {w : Int} (h1 : -1000000000000000000 ≤ w) (h2 : w ≤ 1000000000000000000) :
    fR w 0 = 0 ∧ wrongN (fC w 0) (fE w 0) = 0 ∧ V (fC w 0) (fE w 0) = tens w 40 ∧ 0 ≤ fE w 0 ∧ fE w 0 ≤ 18 ∧ tens (fC w 0) (fE w 0).toNat = w := by
  by_cases h0 : w = 0
  · subst h0
    refine ⟨rfl, by decide, by decide, by decide, by decide, by decide⟩
  · obtain ⟨a, b⟩ := tz_of h0 (by omega)
    have t := tz_le h0 (by omega)
    have g : ¬ (40 : Int) < 0 + (tz w : Int) := by omega
    have eC : fC w 0 = tc w := by unfold fC; rw [if_neg h0, if_neg g]
    have eE : fE w 0 = (tz w : Int) := by unfold fE; rw [if_neg h0, if_neg g]; omega
    have eR : fR w 0 = 0 := by unfold fR; rw [if_neg h0, if_neg g]
    have bnd : -1000000000000000000 < tc w ∧ tc w < 1000000000000000000 := by
      by_cases hz : tz w = 0
      · rw [hz] at a
        have a' : w = tc w := a
        have : tc w ≠ 1000000000000000000 := by intro q; rw [q] at b; exact b (by decide)
        have : tc w ≠ -1000000000000000000 := by intro q; rw [q] at b; exact b (by decide)
        omega
      · have m := tens_mono (n := 1) (by omega) (show 1 ≤ tz w by omega)
        have e1 : tens 1 1 = 10 := by decide
        obtain ⟨k, hk⟩ : ∃ k, tz w = k + 1 := ⟨tz w - 1, by omega⟩
        rw [hk] at a
        have p := @tens_pos
        rcases Int.lt_trichotomy (tc w) 0 with q | q | q
        · have u := tens_mono (n := -(tc w)) (by omega) (show 1 ≤ k + 1 by omega)
          rw [tens_neg (tc w) (k + 1), ← a] at u
          have : tens (-tc w) 1 = -tc w * 10 := rfl
          omega
        · rw [q] at b; exact absurd rfl b
        · have u := tens_mono (n := tc w) (by omega) (show 1 ≤ k + 1 by omega)
          rw [← a] at u
          have : tens (tc w) 1 = tc w * 10 := rfl
          omega
    refine ⟨eR, ?_, ?_, by omega, by omega, ?_⟩
    · rw [eC, eE]
      unfold wrongN
      rw [if_neg (by omega), if_neg (fun q => b q.1)]
    · rw [eC, eE]
      unfold V
      rw [show ((tz w : Int) + 40).toNat = tz w + 40 by omega, ← tens_add, ← a]
    · rw [eC, eE, Int.toNat_natCast, ← a]

theorem tens_one {S : Int} {k : Nat} (h : tens S k = 1) : S = 1 ∧ k = 0 := by
  cases k with
  | zero => exact ⟨h, rfl⟩
  | succ k => rw [tens] at h; omega

/-- the one between a number's two neighbours -/
theorem one_between {f g : Int} (hf1 : -1000000000000000000 ≤ f) (hf2 : f ≤ 1000000000000000000) (hg1 : -1000000000000000000 ≤ g) (hg2 : g ≤ 1000000000000000000) (h : g = f + 1) :
    addS (fC g 0) (fE g 0) (-(fC f 0)) (fE f 0) = 1 ∧ min (fE g 0) (fE f 0) = 0 := by
  obtain ⟨_, _, _, f3, f4, f5⟩ := whole_told hf1 hf2
  obtain ⟨_, _, _, g3, g4, g5⟩ := whole_told hg1 hg2
  have e : tens (addS (fC g 0) (fE g 0) (-(fC f 0)) (fE f 0)) (min (fE g 0) (fE f 0)).toNat = 1 := by
    unfold addS
    rw [tens_eq, Int.add_mul, ← tens_eq, ← tens_eq, tens_add, tens_add]
    rw [show (fE g 0 - min (fE g 0) (fE f 0)).toNat + (min (fE g 0) (fE f 0)).toNat = (fE g 0).toNat by omega, show (fE f 0 - min (fE g 0) (fE f 0)).toNat + (min (fE g 0) (fE f 0)).toNat = (fE f 0).toNat by omega, g5, tens_neg, f5]
    omega
  obtain ⟨a, b⟩ := tens_one e
  exact ⟨a, by omega⟩

/-- what is rounded to a multiple of 10^y, of fewer than eighteen digits -/
theorem round_told {C y : Int} (h1 : -1000000000000000000 ≤ C) (h2 : C ≤ 1000000000000000000) (hy1 : -40 ≤ y) (hr : fR C y = 0) :
    wrongN (fC C y) (fE C y) = 0 ∧ (fC C y ≠ 0 → y ≤ fE C y) ∧ (fC C y = 0 → fE C y = 0) := by
  by_cases h0 : C = 0
  · subst h0
    refine ⟨by simp [fC, fE]; decide, by simp [fC], by simp [fE]⟩
  · obtain ⟨a, b⟩ := tz_of h0 (by omega)
    have g : ¬ (40 : Int) < y + (tz C : Int) := by
      intro q
      unfold fR at hr
      rw [if_neg h0, if_pos q] at hr
      omega
    have eC : fC C y = tc C := by unfold fC; rw [if_neg h0, if_neg g]
    have eE : fE C y = y + (tz C : Int) := by unfold fE; rw [if_neg h0, if_neg g]
    have w := (whole_told h1 h2).2.1
    have g0 : ¬ (40 : Int) < 0 + (tz C : Int) := by have := tz_le h0 (by omega); omega
    have eC0 : fC C 0 = tc C := by unfold fC; rw [if_neg h0, if_neg g0]
    have eE0 : fE C 0 = (tz C : Int) := by unfold fE; rw [if_neg h0, if_neg g0]; omega
    rw [eC0, eE0] at w
    obtain ⟨w1, w2, _, _, _⟩ := wrong_ok w
    rw [eC, eE]
    refine ⟨?_, fun _ => by omega, fun q => ?_⟩
    · unfold wrongN
      rw [if_neg (by omega), if_neg (fun q => b q.1)]
    · rw [q] at b; exact absurd rfl b
end Dm

/- Plain facts: what can be told exactly is. No Go in sight. -/
namespace Dm

theorem has_len : ∀ (m n : Nat), 1 ≤ n → n < 10 ^ m → ∃ L, 1 ≤ L ∧ L ≤ m ∧ 10 ^ (L - 1) ≤ n ∧ n < 10 ^ L
  | 0, n, h, l => by simp at l; omega
  | m + 1, n, h, l => by
    by_cases g : n < 10 ^ m
    · obtain ⟨L, a, b, c, d⟩ := has_len m n h g
      exact ⟨L, a, by omega, c, d⟩
    · exact ⟨m + 1, by omega, Nat.le_refl _, by simpa using g, l⟩
theorem nd_tens {n L j : Nat} (h1 : 1 ≤ L) (h2 : L + j ≤ 200) (h3 : 10 ^ (L - 1) ≤ n) (h4 : n < 10 ^ L) : nd (n * 10 ^ j) = L + j := by
  refine nd_at h2 ?_ (.inr ?_)
  · rw [Nat.pow_add]; exact Nat.mul_lt_mul_of_pos_right h4 (p10_pos j)
  · rw [show L + j - 1 = L - 1 + j by omega, Nat.pow_add]; exact Nat.mul_le_mul_right _ h3
theorem rnd_exact (m k : Nat) (R : Bool) (hR : R = false) : rnd (m * 10 ^ k) (10 ^ k) R = m := by
  subst hR
  have p := p10_pos k
  unfold rnd up
  rw [Nat.mul_mod_left, Nat.mul_div_cancel _ p, if_neg]
  simp
  omega
/-- what comes of a number with noughts at its end: the number times a power of ten -/
theorem sc_exact {n j k : Nat} {s : Int} (h : (j : Int) + s = (k : Int)) : sc (n * 10 ^ j) s false = n * 10 ^ k := by
  unfold sc
  by_cases g : 0 ≤ s
  · rw [if_pos g, Nat.mul_assoc, ← Nat.pow_add]
    congr 2
    omega
  · rw [if_neg g, show j = k + (-s).toNat by omega, Nat.pow_add, ← Nat.mul_assoc]
    exact rnd_exact _ _ _ rfl
theorem sg_tens {c : Int} (k : Nat) {S : Int} (j : Nat) (hS : S = tens c j) : sg (decide (S < 0)) (c.natAbs * 10 ^ k) = tens c k := by
  have a := tens_abs c k
  have b := tens_abs c j
  have p := p10_pos j
  unfold sg
  rcases Int.lt_trichotomy c 0 with g | g | g
  · have : S < 0 := by
      rw [hS, b.1 g]
      have := Nat.mul_pos (show 0 < c.natAbs by omega) p
      omega
    rw [decide_eq_true this, if_pos rfl, a.1 g]
  · subst g
    rw [a.2 (by omega)]
    simp
  · have : ¬ S < 0 := by rw [hS, b.2 (by omega)]; omega
    rw [decide_eq_false this, if_neg (by decide), a.2 (by omega)]

/-- what can be told exactly is -/
theorem exact_told {c x S : Int} {j : Nat} (h : wrongN c x = 0) (hj : j ≤ 100) (hS : S = tens c j) :
    fC (nearZ S (x - j) false) (nE S.natAbs (x - j)) = c ∧ fE (nearZ S (x - j) false) (nE S.natAbs (x - j)) = x ∧ fR (nearZ S (x - j) false) (nE S.natAbs (x - j)) = 0 := by
  obtain ⟨p1, p2, p3, p4, p5⟩ := wrong_ok h
  by_cases h0 : c = 0
  · have hx : x = 0 := (p5 (by rw [h0]; rfl)).2
    subst h0
    rw [tens_zero] at hS
    subst hS
    have e : nearZ 0 (x - j) false = 0 := by
      unfold nearZ
      rw [show Int.natAbs 0 = 0 by rfl, nQ_zero]
      rfl
    rw [e]
    subst hx
    simp [fC, fE, fR]
  · have hc : c.tmod 10 ≠ 0 := fun q => h0 (p5 q).1
    obtain ⟨L, l1, l2, l3, l4⟩ := has_len 18 c.natAbs (by omega) (by omega)
    have hN : S.natAbs = c.natAbs * 10 ^ j := by
      rcases Int.lt_trichotomy c 0 with g | g | g
      · rw [hS, (tens_abs c j).1 g]; omega
      · exact absurd g h0
      · rw [hS, (tens_abs c j).2 (by omega)]; omega
    have hE : nE S.natAbs (x - j) = max (-40) (x + L - 18) := by
      unfold nE
      rw [hN, nd_tens l1 (by omega) l3 l4]
      congr 1
      omega
    obtain ⟨k, hk⟩ : ∃ k : Nat, x - nE S.natAbs (x - j) = (k : Int) := ⟨(x - nE S.natAbs (x - j)).toNat, by rw [hE]; omega⟩
    have hkl : k + L ≤ 18 := by rw [hE] at hk; omega
    have hq : nQ S.natAbs (x - j) false = c.natAbs * 10 ^ k := by
      unfold nQ
      rw [hN] at hk ⊢
      exact sc_exact (by omega)
    have hZ : nearZ S (x - j) false = tens c k := by
      unfold nearZ
      rw [hq]
      exact sg_tens k j hS
    have hb : c.natAbs * 10 ^ k < 10 ^ 18 := by
      have a : c.natAbs * 10 ^ k < 10 ^ L * 10 ^ k := Nat.mul_lt_mul_of_pos_right l4 (p10_pos k)
      have b : 10 ^ L * 10 ^ k ≤ 10 ^ 18 := by rw [← Nat.pow_add]; exact Nat.pow_le_pow_right (by decide) (by omega)
      omega
    have hab : ((tens c k).natAbs : Int) ≤ 1000000000000000000 := by
      rcases Int.lt_trichotomy c 0 with g | g | g
      · rw [(tens_abs c k).1 g]; omega
      · exact absurd g h0
      · rw [(tens_abs c k).2 (by omega)]; omega
    obtain ⟨t1, t2⟩ := tz_at (c := tens c k) rfl hc hab
    have hne : tens c k ≠ 0 := by
      have p := p10_pos k
      have := Nat.mul_pos (show 0 < c.natAbs by omega) p
      rcases Int.lt_trichotomy c 0 with g | g | g
      · rw [(tens_abs c k).1 g]; omega
      · exact absurd g h0
      · rw [(tens_abs c k).2 (by omega)]; omega
    rw [hZ]
    unfold fC fE fR
    rw [if_neg hne, if_neg hne, if_neg hne, t1, t2]
    have g : ¬ 40 < nE S.natAbs (x - j) + (k : Int) := by omega
    rw [if_neg g, if_neg g, if_neg g]
    exact ⟨rfl, by omega, rfl⟩
end Dm

/- Plain: numbers in their one form, and bytes, are ordered. -/
namespace Dm

theorem otens_eq_of {a b : Int} {k : Nat} (h : tens a k = tens b k) : a = b := by
  rcases Int.lt_trichotomy a b with l | l | l
  · have := tens_lt_tens l k; omega
  · exact l
  · have := tens_lt_tens l k; omega
theorem otens_10 (a : Int) (k : Nat) : tens a (k + 1) = tens a k * 10 := by rw [tens_eq, tens_eq, Int.pow_succ]; rw [Int.mul_assoc]
theorem oV_inj {c1 x1 c2 x2 : Int} (h1 : wrongN c1 x1 = 0) (h2 : wrongN c2 x2 = 0) (h : V c1 x1 = V c2 x2) : c1 = c2 ∧ x1 = x2 := by
  have key : ∀ {c1 x1 c2 x2 : Int}, wrongN c1 x1 = 0 → wrongN c2 x2 = 0 → V c1 x1 = V c2 x2 → x1 ≤ x2 → c1 = c2 ∧ x1 = x2 := by
    intro c1 x1 c2 x2 h1 h2 h hx
    obtain ⟨_, _, a3, a4, a5⟩ := wrong_ok h1
    obtain ⟨_, _, b3, b4, b5⟩ := wrong_ok h2
    unfold V at h
    obtain ⟨d, hd⟩ : ∃ d : Nat, (x2 + 40).toNat = d + (x1 + 40).toNat := ⟨(x2 - x1).toNat, by omega⟩
    rw [hd, ← tens_add] at h
    have e := otens_eq_of h
    cases d with
    | zero =>
      have : tens c2 0 = c2 := by rw [tens_eq]; simp
      rw [this] at e
      exact ⟨e, by omega⟩
    | succ d =>
      rw [otens_10] at e
      have hz : c1.tmod 10 = 0 := by
        rw [e]
        exact Int.mul_tmod_left _ _
      obtain ⟨c0, x0⟩ := a5 hz
      subst c0
      have hp : tens c2 d = 0 := by omega
      have c20 : c2 = 0 := by
        rw [tens_eq] at hp
        rcases Int.mul_eq_zero.1 hp with h0 | h0
        · exact h0
        · have : (10 : Int) ^ d ≠ 0 := Int.pow_ne_zero (by decide)
          exact absurd h0 this
      subst c20
      have := b5 (by decide)
      exact ⟨rfl, by omega⟩
  rcases Int.le_total x1 x2 with hx | hx
  · exact key h1 h2 h hx
  · have := key h2 h1 h.symm hx
    exact ⟨this.1.symm, this.2.symm⟩

theorem sgn_neg_iff (a : Int) : sgn a < 0 ↔ a < 0 := by
  rcases sgn_cases a with ⟨h, e⟩ | ⟨h, e⟩ | ⟨h, e⟩ <;> rw [e] <;> omega

theorem num_one {c1 x1 c2 x2 : Int} (h1 : wrongN c1 x1 = 0) (h2 : wrongN c2 x2 = 0) (g1 g2 g3 : Bool) (e1 : g1 = decide (sgn (V c1 x1 - V c2 x2) < 0)) (e2 : g2 = decide (sgn (V c2 x2 - V c1 x1) < 0)) (e3 : g3 = decide (c1 = c2 ∧ x1 = x2)) :
    (g1 = true ∧ g2 = false ∧ g3 = false) ∨ (g1 = false ∧ g2 = true ∧ g3 = false) ∨ (g1 = false ∧ g2 = false ∧ g3 = true) := by
  rcases Int.lt_trichotomy (V c1 x1) (V c2 x2) with l | l | l
  · left
    refine ⟨by rw [e1]; exact decide_eq_true ((sgn_neg_iff _).2 (by omega)), by rw [e2]; exact decide_eq_false (fun h => by have := (sgn_neg_iff _).1 h; omega), by rw [e3]; exact decide_eq_false (fun h => by rw [h.1, h.2] at l; omega)⟩
  · right; right
    have := oV_inj h1 h2 l
    refine ⟨by rw [e1]; exact decide_eq_false (fun h => by have := (sgn_neg_iff _).1 h; omega), by rw [e2]; exact decide_eq_false (fun h => by have := (sgn_neg_iff _).1 h; omega), by rw [e3]; exact decide_eq_true this⟩
  · right; left
    refine ⟨by rw [e1]; exact decide_eq_false (fun h => by have := (sgn_neg_iff _).1 h; omega), by rw [e2]; exact decide_eq_true ((sgn_neg_iff _).2 (by omega)), by rw [e3]; exact decide_eq_false (fun h => by rw [h.1, h.2] at l; omega)⟩
theorem num_tr {a b c : Int} (h1 : decide (sgn (a - b) < 0) = true) (h2 : decide (sgn (b - c) < 0) = true) : decide (sgn (a - c) < 0) = true := by
  have := (sgn_neg_iff _).1 (of_decide_eq_true h1)
  have := (sgn_neg_iff _).1 (of_decide_eq_true h2)
  exact decide_eq_true ((sgn_neg_iff _).2 (by omega))

open Go.Op in
theorem less_irr : ∀ (a : List UInt8), bytesLess a a = false
  | [] => rfl
  | x :: a => by
    have := less_irr a
    simp [bytesLess, this]
theorem u8_tri (x y : UInt8) : x < y ∨ x = y ∨ y < x := by
  rcases Nat.lt_trichotomy x.toNat y.toNat with h | h | h
  · exact .inl (UInt8.lt_iff_toNat_lt.2 h)
  · exact .inr (.inl (UInt8.toNat_inj.1 h))
  · exact .inr (.inr (UInt8.lt_iff_toNat_lt.2 h))
open Go.Op in
theorem less_tri : ∀ (a b : List UInt8), (bytesLess a b = true ∧ bytesLess b a = false ∧ a ≠ b) ∨ (bytesLess a b = false ∧ bytesLess b a = true ∧ a ≠ b) ∨ (bytesLess a b = false ∧ bytesLess b a = false ∧ a = b)
  | [], [] => by simp [bytesLess]
  | [], y :: b => by simp [bytesLess]
  | x :: a, [] => by simp [bytesLess]
  | x :: a, y :: b => by
    rcases u8_tri x y with h | h | h
    · left
      have h2 : ¬ y < x := UInt8.lt_asymm h
      have h3 : x ≠ y := UInt8.ne_of_lt h
      simp [bytesLess, h, h2, h3, Ne.symm h3]
    · subst h
      have := less_tri a b
      simp [bytesLess, UInt8.lt_irrefl]
      exact this
    · right; left
      have h2 : ¬ x < y := UInt8.lt_asymm h
      have h3 : y ≠ x := UInt8.ne_of_lt h
      simp [bytesLess, h, h2, Ne.symm h3]
open Go.Op in
theorem less_trans : ∀ (a b c : List UInt8), bytesLess a b = true → bytesLess b c = true → bytesLess a c = true
  | a, [], c, h1, h2 => by cases a <;> simp [bytesLess] at h1
  | a, y :: b, [], h1, h2 => by simp [bytesLess] at h2
  | [], y :: b, z :: c, h1, h2 => by simp [bytesLess]
  | x :: a, y :: b, z :: c, h1, h2 => by
    simp only [bytesLess, Bool.or_eq_true, decide_eq_true_eq, Bool.and_eq_true, beq_iff_eq] at h1 h2 ⊢
    rcases h1 with h1 | ⟨rfl, h1⟩
    · rcases h2 with h2 | ⟨rfl, h2⟩
      · exact .inl (UInt8.lt_trans h1 h2)
      · exact .inl h1
    · rcases h2 with h2 | ⟨rfl, h2⟩
      · exact .inl h2
      · exact .inr ⟨rfl, less_trans a b c h1 h2⟩
end Dm

/- A value that came in, opened. -/
namespace Go.Proofs.YtcidbhegnnedoaaGreatDoor
open Go.ChangeShapes Go.WideShapes Go.ChangeAt Go.RowKit Go.Joins

theorem cellsDec : Tryz.prog.cellsOf 23 = 2 := by kernel_rfl
theorem cellsVal : Tryz.prog.cellsOf 26 = 6 := by kernel_rfl
theorem cellsInt : Tryz.prog.cellsOf 3 = 1 := by kernel_rfl
theorem cellsBool : Tryz.prog.cellsOf 4 = 1 := by kernel_rfl
theorem cellsStr : Tryz.prog.cellsOf 9 = 1 := by kernel_rfl
theorem cellsList : Tryz.prog.cellsOf 24 = 1 := by kernel_rfl
theorem cellsI64 : Tryz.prog.cellsOf 2 = 1 := by kernel_rfl
theorem laidOut : laidOutB Tryz.prog = true := by kernel_rfl

theorem array6 {α : Type} {cs : Array α} (h : cs.size = 6) : ∃ c0 c1 c2 c3 c4 c5, cs = #[c0, c1, c2, c3, c4, c5] := by
  obtain ⟨l⟩ := cs
  match l, h with
  | [c0, c1, c2, c3, c4, c5], _ => exact ⟨c0, c1, c2, c3, c4, c5, rfl⟩

theorem list5 {α : Type} {l : List α} (h : l.length = 5) : ∃ c0 c1 c2 c3 c4, l = [c0, c1, c2, c3, c4] := by
  match l, h with
  | [c0, c1, c2, c3, c4], _ => exact ⟨c0, c1, c2, c3, c4, rfl⟩

section
variable {H : Type} {enc : TypeId × Value → H} {w : World} {base : Nat} {spare : Nat → Bool} {held : Bool}
set_option maxRecDepth 100000 in
theorem open_value {r : Reach} {b0 : Nat} {v : Value} {d : DataW H} {p : List MemPlace}
    (hv : Value.okWide Tryz.prog w r b0 26 v) (h : DataW.Trod enc Tryz.prog w base spare held 26 v d p) :
    ∃ (k : Int) (y : Bool) (c x : Int) (t : ByteArray) (a : Option Addr) (n m : Nat), v = .agg #[.int .i64 k, .bool y, .int .i64 c, .int .i64 x, .string t, .slice a n m] := by
  obtain ⟨cs, rfl, hsz⟩ := okWide_struct Tryz.underlying26 hv
  obtain ⟨c0, c1, c2, c3, c4, c5, rfl⟩ := array6 (hsz.trans cellsVal)
  obtain ⟨fuel, hf⟩ := h
  obtain ⟨xs, n, _, hx, hl, hlen, hf⟩ := DataW.trod_struct Tryz.underlying26 hf
  have h0 := hf 0 _ rfl
  have h1 := hf 1 _ rfl
  have h2 := hf 2 _ rfl
  have h3 := hf 3 _ rfl
  have h4 := hf 4 _ rfl
  simp [Value.cells, cellsInt, cellsBool, cellsDec, cellsStr, cellsList] at h0 h1 h2 h3 h4
  obtain ⟨y0, y1, y2, y3, y4, rfl⟩ := list5 hlen
  simp at h0 h1 h2 h3 h4
  obtain ⟨k, e0, _⟩ := DataW.trod_int Tryz.underlying3 h0
  obtain ⟨y, e1, _⟩ := DataW.trod_bool Tryz.underlying4 h1
  obtain ⟨z0, z1, n2, _, _, g0, g1⟩ := trod_struct2 Tryz.underlying23 h2
  simp [cellsI64, cellsInt] at g0 g1
  obtain ⟨c, e2, _⟩ := DataW.trod_int Tryz.underlying2 g0
  obtain ⟨x, e3, _⟩ := DataW.trod_int Tryz.underlying3 g1
  obtain ⟨t, e4, _⟩ := DataW.trod_string Tryz.underlying9 h3
  obtain ⟨a, l, m, e5⟩ := slice_form Tryz.underlying24 h4
  simp at e0 e1 e2 e3 e4 e5
  subst e0 e1 e2 e3 e4 e5
  exact ⟨k, y, c, x, t, a, l, m, rfl⟩
end
end Go.Proofs.YtcidbhegnnedoaaGreatDoor
