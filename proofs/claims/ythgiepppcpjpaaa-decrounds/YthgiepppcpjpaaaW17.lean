/- Walks: Round. -/
import Derived.Test.YthgiepppcpjpaaaW8
import Derived.Test.YthgiepppcpjpaaaW9
import Derived.Test.YthgiepppcpjpaaaW16
import Derived.Deep.RegionHeld2
import Derived.Test.YthgiepppcpjpaaaW13
namespace Go.Proofs.Ythgiepppcpjpaaa
open Go.RowKit

set_option maxHeartbeats 400000 in
theorem round_far (c x p : Int) (w : World) (h : Dm.wrongN c x = 0) (hp : p < -40 ∨ 40 < p) :
    Calls Try.prog 14 #[.agg #[.int .i64 c, .int .i64 x], .int .i64 p] w fun e w' => e = .returned (.tuple #[.agg #[.int .i64 0, .int .i64 0], .int .i64 3]) ∧ Below w.heap.size w w' := by
  have H := hide h
  clear h
  rcases hp with g | g
  all_goals
    go_enter Try.func14, Try.ntmps14
    go_wp2_with fail
    refine (wrong_any c x _).mono ?_
    rintro e w1 ⟨rfl, hb⟩
    obtain ⟨t0, t1, t2, t3, f0, f1, hz, hbw⟩ := two_cells hb
    rw [unhide H]
    go_wp2
    exact bodyPost_ret (v := .tuple #[.agg #[.int .i64 0, .int .i64 0], .int .i64 3]) (by simp [results, Try.results14, go_sem, t2, t3]) rfl ⟨rfl, (hbw.setCell (by simp) _).setCell (by simp) _⟩

set_option maxHeartbeats 400000 in
theorem round_same (c x p : Int) (w : World) (h : Dm.wrongN c x = 0) (hp1 : -40 ≤ p) (hp2 : p ≤ 40) (hx : -p ≤ x) :
    Calls Try.prog 14 #[.agg #[.int .i64 c, .int .i64 x], .int .i64 p] w fun e w' => e = .returned (.tuple #[.agg #[.int .i64 c, .int .i64 x], .int .i64 0]) ∧ Below w.heap.size w w' := by
  have H := hide h
  clear h
  go_enter Try.func14, Try.ntmps14
  go_wp2_with fail
  refine (wrong_any c x _).mono ?_
  rintro e w1 ⟨rfl, hb⟩
  obtain ⟨t0, t1, t2, t3, f0, f1, hz, hbw⟩ := two_cells hb
  rw [unhide H]
  go_wp2
  exact bodyPost_ret (v := .tuple #[.agg #[.int .i64 c, .int .i64 x], .int .i64 0]) (by simp [results, Try.results14, go_sem, t2, t3]) rfl ⟨rfl, (hbw.setCell (by simp) _).setCell (by simp) _⟩

/-- behind the statement that makes Round's fraction -/
def RoundRel (c x : Int) (w : World) (v : Value) (wc : World) : Prop :=
  ∃ nb g : Nat, v = .pointer (some ⟨nb, 0, none⟩) ∧ Hid (DS wc g 0 18 (Dm.pd c.natAbs 18)) ∧
    wc.cell? ⟨nb, 0, none⟩ = some (.bool (decide (c < 0))) ∧ wc.cell? ⟨nb, 1, none⟩ = some (.slice (some ⟨g, 0, none⟩) 18 18) ∧ wc.cell? ⟨nb, 2, none⟩ = some (.int .i64 x) ∧ wc.cell? ⟨nb, 3, none⟩ = some (.bool false) ∧ nb < wc.heap.size ∧ w.heap.size + 1 < nb ∧
    wc.cell? ⟨w.heap.size + 1, 0, none⟩ = some (.int .i64 0) ∧ wc.cell? ⟨w.heap.size + 1, 1, none⟩ = some (.int .i64 0) ∧ wc.frozen? ⟨w.heap.size + 1, 0, none⟩ = false ∧ wc.frozen? ⟨w.heap.size + 1, 1, none⟩ = false ∧ w.heap.size + 2 ≤ wc.heap.size ∧ Below w.heap.size w wc

theorem keep4 {w1 : World} {nb h o : Nat} {v0 v1 v2 v3 x : Value} (hne : nb ≠ h) (hc : w1.cell? ⟨h, o, none⟩ = some x) :
    ((((w1.setCell ⟨nb, 0, none⟩ v0).setCell ⟨nb, 1, none⟩ v1).setCell ⟨nb, 2, none⟩ v2).setCell ⟨nb, 3, none⟩ v3).cell? ⟨h, o, none⟩ = some x := by
  have st : ∀ {wx : World} (j : Nat) (v : Value), wx.cell? ⟨h, o, none⟩ = some x → (wx.setCell ⟨nb, j, none⟩ v).cell? ⟨h, o, none⟩ = some x := fun {wx} j v hx =>
    (World.cell?_of_block (w := wx) (a := ⟨h, o, none⟩) (Below.heap_setCell wx ⟨nb, j, none⟩ v h (fun e => hne e.symm))).trans hx
  exact st 3 _ (st 2 _ (st 1 _ (st 0 _ hc)))

theorem keep2 {w1 : World} {nb h o : Nat} {v0 v1 x : Value} (hne : nb ≠ h) (hc : w1.cell? ⟨h, o, none⟩ = some x) :
    ((w1.setCell ⟨nb, 0, none⟩ v0).setCell ⟨nb, 1, none⟩ v1).cell? ⟨h, o, none⟩ = some x := by
  have st : ∀ {wx : World} (j : Nat) (v : Value), wx.cell? ⟨h, o, none⟩ = some x → (wx.setCell ⟨nb, j, none⟩ v).cell? ⟨h, o, none⟩ = some x := fun {wx} j v hx =>
    (World.cell?_of_block (w := wx) (a := ⟨h, o, none⟩) (Below.heap_setCell wx ⟨nb, j, none⟩ v h (fun e => hne e.symm))).trans hx
  exact st 1 _ (st 0 _ hc)

theorem fcarry {w1 w2 : World} {nb : Nat} {v0 v1 v2 v3 : Value} (hb : Below w1.heap.size w1 w2) (hl : nb < w1.heap.size)
    (a0 : w1.cell? ⟨nb, 0, none⟩ = some v0) (a1 : w1.cell? ⟨nb, 1, none⟩ = some v1) (a2 : w1.cell? ⟨nb, 2, none⟩ = some v2) (a3 : w1.cell? ⟨nb, 3, none⟩ = some v3)
    (b0 : w1.frozen? ⟨nb, 0, none⟩ = false) (b1 : w1.frozen? ⟨nb, 1, none⟩ = false) (b2 : w1.frozen? ⟨nb, 2, none⟩ = false) (b3 : w1.frozen? ⟨nb, 3, none⟩ = false) :
    w2.cell? ⟨nb, 0, none⟩ = some v0 ∧ w2.cell? ⟨nb, 1, none⟩ = some v1 ∧ w2.cell? ⟨nb, 2, none⟩ = some v2 ∧ w2.cell? ⟨nb, 3, none⟩ = some v3 ∧
    w2.frozen? ⟨nb, 0, none⟩ = false ∧ w2.frozen? ⟨nb, 1, none⟩ = false ∧ w2.frozen? ⟨nb, 2, none⟩ = false ∧ w2.frozen? ⟨nb, 3, none⟩ = false ∧ nb < w2.heap.size :=
  ⟨(hb.cell (p := ⟨nb, 0, none⟩) hl).trans a0, (hb.cell (p := ⟨nb, 1, none⟩) hl).trans a1, (hb.cell (p := ⟨nb, 2, none⟩) hl).trans a2, (hb.cell (p := ⟨nb, 3, none⟩) hl).trans a3,
   (hb.frozen (p := ⟨nb, 0, none⟩) hl).trans b0, (hb.frozen (p := ⟨nb, 1, none⟩) hl).trans b1, (hb.frozen (p := ⟨nb, 2, none⟩) hl).trans b2, (hb.frozen (p := ⟨nb, 3, none⟩) hl).trans b3, Nat.lt_of_lt_of_le hl hb.size⟩

theorem fcells0 {w1 w2 : World} (hb : Below (w1.alloc (.cells #[.bool false, .slice none 0 0, .int .i64 0, .bool false] 42)).heap.size (w1.alloc (.cells #[.bool false, .slice none 0 0, .int .i64 0, .bool false] 42)) w2) :
    w2.cell? ⟨w1.heap.size, 0, none⟩ = some (.bool false) ∧ w2.cell? ⟨w1.heap.size, 1, none⟩ = some (.slice none 0 0) ∧ w2.cell? ⟨w1.heap.size, 2, none⟩ = some (.int .i64 0) ∧ w2.cell? ⟨w1.heap.size, 3, none⟩ = some (.bool false) ∧
    w2.frozen? ⟨w1.heap.size, 0, none⟩ = false ∧ w2.frozen? ⟨w1.heap.size, 1, none⟩ = false ∧ w2.frozen? ⟨w1.heap.size, 2, none⟩ = false ∧ w2.frozen? ⟨w1.heap.size, 3, none⟩ = false ∧ w1.heap.size < w2.heap.size :=
  fcarry hb (by simp) (by simp [go_sem]) (by simp [go_sem]) (by simp [go_sem]) (by simp [go_sem]) (by simp [go_sem]) (by simp [go_sem]) (by simp [go_sem]) (by simp [go_sem])

theorem fcells {w1 w2 : World} (hb : Below (w1.alloc (.cells #[.bool false, .slice none 0 0, .int .i64 0, .bool false] 42)).drew.heap.size (w1.alloc (.cells #[.bool false, .slice none 0 0, .int .i64 0, .bool false] 42)).drew w2) :
    w2.cell? ⟨w1.heap.size, 0, none⟩ = some (.bool false) ∧ w2.cell? ⟨w1.heap.size, 1, none⟩ = some (.slice none 0 0) ∧ w2.cell? ⟨w1.heap.size, 2, none⟩ = some (.int .i64 0) ∧ w2.cell? ⟨w1.heap.size, 3, none⟩ = some (.bool false) ∧
    w2.frozen? ⟨w1.heap.size, 0, none⟩ = false ∧ w2.frozen? ⟨w1.heap.size, 1, none⟩ = false ∧ w2.frozen? ⟨w1.heap.size, 2, none⟩ = false ∧ w2.frozen? ⟨w1.heap.size, 3, none⟩ = false ∧ w1.heap.size < w2.heap.size :=
  fcarry hb (by simp) (by simp [go_sem]) (by simp [go_sem]) (by simp [go_sem]) (by simp [go_sem]) (by simp [go_sem]) (by simp [go_sem]) (by simp [go_sem]) (by simp [go_sem])

theorem round_relA {c x : Int} {w w3 : World} {g : Nat} (hD : DS w3 g 0 18 (Dm.pd c.natAbs 18)) (u2 : w3.cell? ⟨w.heap.size + 1, 0, none⟩ = some (.int .i64 0)) (u3 : w3.cell? ⟨w.heap.size + 1, 1, none⟩ = some (.int .i64 0)) (k0 : w3.frozen? ⟨w.heap.size + 1, 0, none⟩ = false) (k1 : w3.frozen? ⟨w.heap.size + 1, 1, none⟩ = false)
    (kz : w.heap.size + 2 ≤ w3.heap.size) (hbu : Below w.heap.size w w3) {B : Bool} (hB : decide (c < 0) = B) :
    RoundRel c x w (.pointer (some ⟨w3.heap.size, 0, none⟩)) (w3.alloc (.cells #[.bool B, .slice (some ⟨g, 0, none⟩) 18 18, .int .i64 x, .bool false] 42)) := by
  have hb : Below w3.heap.size w3 (w3.alloc (.cells #[.bool B, .slice (some ⟨g, 0, none⟩) 18 18, .int .i64 x, .bool false] 42)) := (Below.refl _ _).alloc (Nat.le_refl _) _
  have l : w.heap.size + 1 < w3.heap.size := by omega
  refine ⟨w3.heap.size, g, rfl, hide (hD.below hb), by rw [hB]; simp [go_sem], by simp [go_sem], by simp [go_sem], by simp [go_sem], by simp, l, (hb.cell (p := ⟨w.heap.size + 1, 0, none⟩) l).trans u2, (hb.cell (p := ⟨w.heap.size + 1, 1, none⟩) l).trans u3, (hb.frozen (p := ⟨w.heap.size + 1, 0, none⟩) l).trans k0, (hb.frozen (p := ⟨w.heap.size + 1, 1, none⟩) l).trans k1, by simp; omega, hbu.trans (hb.mono hbu.size)⟩

theorem round_relB {c x : Int} {w w3 : World} {g nb : Nat} (hD : DS w3 g 0 18 (Dm.pd c.natAbs 18)) (u2 : w3.cell? ⟨w.heap.size + 1, 0, none⟩ = some (.int .i64 0)) (u3 : w3.cell? ⟨w.heap.size + 1, 1, none⟩ = some (.int .i64 0)) (k0 : w3.frozen? ⟨w.heap.size + 1, 0, none⟩ = false) (k1 : w3.frozen? ⟨w.heap.size + 1, 1, none⟩ = false)
    (kz : w.heap.size + 2 ≤ w3.heap.size) (hbu : Below w.heap.size w w3) {B : Bool} (hB : decide (c < 0) = B) (hn1 : w.heap.size + 1 < nb) (hn2 : nb < w3.heap.size) (hng : nb ≠ g) {v0 v1 v2 v3 : Value}
    (a0 : w3.cell? ⟨nb, 0, none⟩ = some v0) (a1 : w3.cell? ⟨nb, 1, none⟩ = some v1) (a2 : w3.cell? ⟨nb, 2, none⟩ = some v2) (a3 : w3.cell? ⟨nb, 3, none⟩ = some v3) :
    RoundRel c x w (.pointer (some ⟨nb, 0, none⟩)) ((((w3.setCell ⟨nb, 0, none⟩ (.bool B)).setCell ⟨nb, 1, none⟩ (.slice (some ⟨g, 0, none⟩) 18 18)).setCell ⟨nb, 2, none⟩ (.int .i64 x)).setCell ⟨nb, 3, none⟩ (.bool false)) := by
  have fr : ∀ {wx : World} (j : Nat) (v : Value) (o : Nat), (wx.setCell ⟨nb, j, none⟩ v).frozen? ⟨w.heap.size + 1, o, none⟩ = wx.frozen? ⟨w.heap.size + 1, o, none⟩ := fun {wx} j v o =>
    World.frozen?_of_block (w := wx) (a := ⟨w.heap.size + 1, o, none⟩) (Below.heap_setCell wx ⟨nb, j, none⟩ v (w.heap.size + 1) (fun e => by simp at e; omega))
  have sz : ∀ {wx : World} (j : Nat) (v : Value), (wx.setCell ⟨nb, j, none⟩ v).heap.size = wx.heap.size := fun {wx} j v => by simp [World.setCell]
  refine ⟨nb, g, rfl, hide ((((hD.setCell (a := ⟨nb, 0, none⟩) hng _).setCell (a := ⟨nb, 1, none⟩) hng _).setCell (a := ⟨nb, 2, none⟩) hng _).setCell (a := ⟨nb, 3, none⟩) hng _), ?_, ?_, ?_, ?_, ?_, hn1, keep4 (by omega) u2, keep4 (by omega) u3, ?_, ?_, ?_, ?_⟩
  · rw [hB]; simp [go_sem, a0]
  · simp [go_sem, a1]
  · simp [go_sem, a2]
  · simp [go_sem, a3]
  · rw [sz, sz, sz, sz]; exact hn2
  · rw [fr, fr, fr, fr]; exact k0
  · rw [fr, fr, fr, fr]; exact k1
  · rw [sz, sz, sz, sz]; exact kz
  · exact (((hbu.setCell (by simp; omega) _).setCell (by simp; omega) _).setCell (by simp; omega) _).setCell (by simp; omega) _

theorem round_cells {wc w1 : World} {h nb : Nat} {v0 v1 v2 v3 r0 r1 : Value} (hb : Below wc.drew.heap.size wc.drew w1) (hsz : h + 2 ≤ wc.heap.size) (hnb : nb < wc.heap.size)
    (c0 : wc.cell? ⟨nb, 0, none⟩ = some v0) (c1 : wc.cell? ⟨nb, 1, none⟩ = some v1) (c2 : wc.cell? ⟨nb, 2, none⟩ = some v2) (c3 : wc.cell? ⟨nb, 3, none⟩ = some v3)
    (d0 : wc.cell? ⟨h + 1, 0, none⟩ = some r0) (d1 : wc.cell? ⟨h + 1, 1, none⟩ = some r1) (f0 : wc.frozen? ⟨h + 1, 0, none⟩ = false) (f1 : wc.frozen? ⟨h + 1, 1, none⟩ = false) :
    w1.cell? ⟨nb, 0, none⟩ = some v0 ∧ w1.cell? ⟨nb, 1, none⟩ = some v1 ∧ w1.cell? ⟨nb, 2, none⟩ = some v2 ∧ w1.cell? ⟨nb, 3, none⟩ = some v3 ∧
    w1.cell? ⟨h + 1, 0, none⟩ = some r0 ∧ w1.cell? ⟨h + 1, 1, none⟩ = some r1 ∧ w1.frozen? ⟨h + 1, 0, none⟩ = false ∧ w1.frozen? ⟨h + 1, 1, none⟩ = false ∧ h + 2 ≤ w1.heap.size ∧ nb < w1.heap.size := by
  have e : wc.drew.heap.size = wc.heap.size := rfl
  have l : h + 1 < wc.drew.heap.size := by omega
  have m : nb < wc.drew.heap.size := by omega
  have s := hb.size
  exact ⟨(hb.cell (p := ⟨nb, 0, none⟩) m).trans c0, (hb.cell (p := ⟨nb, 1, none⟩) m).trans c1, (hb.cell (p := ⟨nb, 2, none⟩) m).trans c2, (hb.cell (p := ⟨nb, 3, none⟩) m).trans c3,
    (hb.cell (p := ⟨h + 1, 0, none⟩) l).trans d0, (hb.cell (p := ⟨h + 1, 1, none⟩) l).trans d1, (hb.frozen (p := ⟨h + 1, 0, none⟩) l).trans f0, (hb.frozen (p := ⟨h + 1, 1, none⟩) l).trans f1, by omega, by omega⟩

theorem round_cells0 {wc w1 : World} {h nb : Nat} {v0 v1 v2 v3 r0 r1 : Value} (hb : Below wc.heap.size wc w1) (hsz : h + 2 ≤ wc.heap.size) (hnb : nb < wc.heap.size)
    (c0 : wc.cell? ⟨nb, 0, none⟩ = some v0) (c1 : wc.cell? ⟨nb, 1, none⟩ = some v1) (c2 : wc.cell? ⟨nb, 2, none⟩ = some v2) (c3 : wc.cell? ⟨nb, 3, none⟩ = some v3)
    (d0 : wc.cell? ⟨h + 1, 0, none⟩ = some r0) (d1 : wc.cell? ⟨h + 1, 1, none⟩ = some r1) (f0 : wc.frozen? ⟨h + 1, 0, none⟩ = false) (f1 : wc.frozen? ⟨h + 1, 1, none⟩ = false) :
    w1.cell? ⟨nb, 0, none⟩ = some v0 ∧ w1.cell? ⟨nb, 1, none⟩ = some v1 ∧ w1.cell? ⟨nb, 2, none⟩ = some v2 ∧ w1.cell? ⟨nb, 3, none⟩ = some v3 ∧
    w1.cell? ⟨h + 1, 0, none⟩ = some r0 ∧ w1.cell? ⟨h + 1, 1, none⟩ = some r1 ∧ w1.frozen? ⟨h + 1, 0, none⟩ = false ∧ w1.frozen? ⟨h + 1, 1, none⟩ = false ∧ h + 2 ≤ w1.heap.size ∧ nb < w1.heap.size := by
  have l : h + 1 < wc.heap.size := by omega
  have m : nb < wc.heap.size := by omega
  have s := hb.size
  exact ⟨(hb.cell (p := ⟨nb, 0, none⟩) m).trans c0, (hb.cell (p := ⟨nb, 1, none⟩) m).trans c1, (hb.cell (p := ⟨nb, 2, none⟩) m).trans c2, (hb.cell (p := ⟨nb, 3, none⟩) m).trans c3,
    (hb.cell (p := ⟨h + 1, 0, none⟩) l).trans d0, (hb.cell (p := ⟨h + 1, 1, none⟩) l).trans d1, (hb.frozen (p := ⟨h + 1, 0, none⟩) l).trans f0, (hb.frozen (p := ⟨h + 1, 1, none⟩) l).trans f1, by omega, by omega⟩

set_option maxHeartbeats 1000000 in
theorem round_some (c x p : Int) (w : World) (h : Dm.wrongN c x = 0) (hp1 : -40 ≤ p) (hp2 : p ≤ 40) (hx : x < -p) :
    Calls Try.prog 14 #[.agg #[.int .i64 c, .int .i64 x], .int .i64 p] w fun e w' => e = .returned (.tuple #[.agg #[.int .i64 (Dm.fC (Dm.sg (decide (c < 0)) (Dm.sc c.natAbs (x - -p) false)) (-p)), .int .i64 (Dm.fE (Dm.sg (decide (c < 0)) (Dm.sc c.natAbs (x - -p) false)) (-p))], .int .i64 (Dm.fR (Dm.sg (decide (c < 0)) (Dm.sc c.natAbs (x - -p) false)) (-p))]) ∧ Below w.heap.size w w' := by
  obtain ⟨p1, p2, p3, p4, _⟩ := Dm.wrong_ok h
  have H := hide h
  clear h
  go_enter Try.func14, Try.ntmps14
  go_wp2_with fail
  refine (wrong_any c x _).mono ?_
  rintro e w1 ⟨rfl, hb⟩
  obtain ⟨t0, t1, t2, t3, f0, f1, hz, hbw⟩ := two_cells hb
  rw [unhide H]
  have l1 : w.heap.size < w1.heap.size := by omega
  have l2 : w.heap.size + 1 < w1.heap.size := by omega
  go_upto_region 8 with fail
  go_cut [7] from 27 (fun v wc => RoundRel c x w v wc)
  case first =>
    generalize hB : decide (c < 0) = B
    go_region_held2 (fun w' => w'.cell? ⟨w.heap.size, 0, none⟩ = some (.int .i64 c) ∧ w'.cell? ⟨w.heap.size, 1, none⟩ = some (.int .i64 x)) (first | go_keep | exact ⟨keep4 (by omega) (by assumption), keep4 (by omega) (by assumption)⟩) (first
      | (go_at_call 27; refine (size_any c x _ p1 p2).mono ?_; rintro e w2 ⟨rfl, hs2⟩; first | (have hb2 := hb.drew.trans (hs2.mono hb.size); clear hs2; obtain ⟨t0', t1', t2', t3', f0', f1', hz', hbw'⟩ := two_cells hb2; have l1' : w.heap.size < w2.heap.size := Nat.lt_of_lt_of_le (Nat.lt_add_of_pos_right (by decide)) hz'; have l2' : w.heap.size + 1 < w2.heap.size := hz') | (have hb2 := (hb.alloc hb.size _).drew.trans (hs2.mono (Nat.le_trans hb.size (by simp))); obtain ⟨a0, a1, a2, a3, b0, b1, b2, b3, al⟩ := fcells hs2; clear hs2; obtain ⟨t0', t1', t2', t3', f0', f1', hz', hbw'⟩ := two_cells hb2; have l1' : w.heap.size < w2.heap.size := Nat.lt_of_lt_of_le (Nat.lt_add_of_pos_right (by decide)) hz'; have l2' : w.heap.size + 1 < w2.heap.size := hz'))
      | (go_at_call 26; refine (padded_any c.natAbs 18 _ (by omega) (by omega)).mono ?_; rintro e w3 ⟨rfl, hown, hs3⟩; first | (have hb3 := hb2.trans (hs3.mono hb2.size); obtain ⟨a0', a1', a2', a3', b0', b1', b2', b3', al'⟩ := fcarry hs3 al a0 a1 a2 a3 b0 b1 b2 b3; clear hs3; obtain ⟨u0, u1, u2, u3, k0, k1, kz, hbu⟩ := two_cells hb3; have l1'' : w.heap.size < w3.heap.size := Nat.lt_of_lt_of_le (Nat.lt_add_of_pos_right (by decide)) kz; have l2'' : w.heap.size + 1 < w3.heap.size := kz) | (have hb3 := hb2.trans (hs3.mono hb2.size); clear hs3; obtain ⟨u0, u1, u2, u3, k0, k1, kz, hbu⟩ := two_cells hb3; have l1'' : w.heap.size < w3.heap.size := Nat.lt_of_lt_of_le (Nat.lt_add_of_pos_right (by decide)) kz; have l2'' : w.heap.size + 1 < w3.heap.size := kz) | (have hb3 := (hb2.alloc hb2.size _).trans (hs3.mono (Nat.le_trans hb2.size (by simp))); obtain ⟨a0, a1, a2, a3, b0, b1, b2, b3, al⟩ := fcells0 hs3; clear hs3; obtain ⟨u0, u1, u2, u3, k0, k1, kz, hbu⟩ := two_cells hb3; have l1'' : w.heap.size < w3.heap.size := Nat.lt_of_lt_of_le (Nat.lt_add_of_pos_right (by decide)) kz; have l2'' : w.heap.size + 1 < w3.heap.size := kz)))
    all_goals go_wp2_with fail
    all_goals go_meet
    case rel => exact round_relA (DS.own hown (Dm.pd_lt _ _) (by omega)) u2 u3 k0 k1 kz hbu hB
    case rel =>
      have hq := DS.own hown (Dm.pd_lt _ _) (by omega)
      simp only [World.size_alloc] at hq
      exact round_relB hq u2 u3 k0 k1 kz hbu hB (by omega) al (by omega) a0 a1 a2 a3
    case rel => exact round_relB (DS.own hown (Dm.pd_lt _ _) (by omega)) u2 u3 k0 k1 kz hbu hB (by omega) al' (by omega) a0' a1' a2' a3'
  case rest =>
    obtain ⟨nb, g, rfl, HD, c0, c1, c2, c3, hnb, hne, d0, d1, f0', f1', hsz, hbel⟩ := hcut
    clear t0 t1 t2 t3 f0 f1 hz hbw hb l1 l2 w1
    generalize hB : decide (c < 0) = B at *
    have HB := hide hB
    clear hB
    have SC := hide (Dm.val_pd (N := c.natAbs) (W := 18) (by omega))
    obtain ⟨q, hq⟩ : ∃ q, q = Dm.sc c.natAbs (x - -p) false := ⟨_, rfl⟩
    have hq2 : (q : Int) ≤ 1000000000000000000 := by
      have := Dm.sc_le (D := Dm.pd c.natAbs 18) (Dm.pd_lt _ _) (n := 18) (x := x) (y := -p) false (by omega)
      rw [unhide SC, ← hq] at this
      omega
    have WC := hide (fun wx (h : DS wx g 0 18 (Dm.pd c.natAbs 18)) => wholeAt_any B false g 0 18 18 x (-p) _ wx h (by omega) (by omega) (by omega) (by omega) (by omega) (by omega))
    rw [unhide SC, ← hq] at WC
    have HQ := hide hq
    clear hq
    have hwp : IntKind.i64.wrap (-p) = -p := by rw [IntKind.wrap_i64]; omega
    go_wp2_with fail
    go_region_held2 (fun w' => w'.cell? ⟨nb, 0, none⟩ = some (.bool B) ∧ w'.cell? ⟨nb, 1, none⟩ = some (.slice (some ⟨g, 0, none⟩) 18 18) ∧ w'.cell? ⟨nb, 2, none⟩ = some (.int .i64 x) ∧ w'.cell? ⟨nb, 3, none⟩ = some (.bool false)) (first | go_keep | exact ⟨keep2 (by omega) (by assumption), keep2 (by omega) (by assumption), keep2 (by omega) (by assumption), keep2 (by omega) (by assumption)⟩)
      (first
      | (go_at_call 29; refine (unhide WC _ ?_).mono ?_; exact (unhide HD).below (Below.refl _ _).drew; rintro e w1 ⟨rfl, hb1⟩; obtain ⟨c0', c1', c2', c3', d0', d1', f0', f1', hsz', hnb'⟩ := round_cells hb1 hsz hnb c0 c1 c2 c3 d0 d1 f0' f1')
      | (go_at_call 28; refine (number_any B false _ x ⟨_, _, _, rfl⟩ q (-p) _ hq2 (by omega) (by omega)).mono ?_; rintro e w2 ⟨rfl, hb2⟩; obtain ⟨c0'', c1'', c2'', c3'', d0'', d1'', f0'', f1'', hsz'', hnb''⟩ := round_cells0 hb2 hsz' hnb' c0' c1' c2' c3' d0' d1' f0' f1'))
    all_goals
      go_wp2
      refine bodyPost_ret (v := .tuple #[.agg #[.int .i64 (Dm.fC (Dm.sg B q) (-p)), .int .i64 (Dm.fE (Dm.sg B q) (-p))], .int .i64 (Dm.fR (Dm.sg B q) (-p))]) (by simp [results, Try.results14, go_sem, d0'', d1'']) rfl ⟨?_, ?_⟩
      · rw [← unhide HQ, unhide HB]
      · have e1 : Below w.heap.size w w1 := (hbel.drew).trans (hb1.mono (by simp; omega))
        have e2 : Below w.heap.size w w2 := e1.trans (hb2.mono (by omega))
        exact (e2.setCell (by simp) _).setCell (by simp) _
end Go.Proofs.Ythgiepppcpjpaaa
