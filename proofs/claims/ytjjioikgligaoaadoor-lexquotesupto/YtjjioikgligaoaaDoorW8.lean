/- Walks: nearest. -/
import Derived.Test.YtjjioikgligaoaaDoorW7
namespace Go.Proofs.YtjjioikgligaoaaDoor
open Go.RowKit

/-- behind nearest's first statement: the noughts ahead are cut off -/
def NearRel (B R : Bool) (b n cap : Nat) (x : Int) (D : Nat → Nat) (w wc : World) : Prop :=
  ∃ z off' : Nat, Hid (z ≤ n ∧ (∀ j, j < z → D j = 0) ∧ (z < n → D z ≠ 0) ∧ DS wc b off' (n - z) (fun j => D (z + j))) ∧ wc.cell? ⟨w.heap.size, 0, none⟩ = some (.bool B) ∧ wc.cell? ⟨w.heap.size, 1, none⟩ = some (.slice (some ⟨b, off', none⟩) (n - z) (cap - z)) ∧ wc.cell? ⟨w.heap.size, 2, none⟩ = some (.int .i64 x) ∧ wc.cell? ⟨w.heap.size, 3, none⟩ = some (.bool R) ∧ wc.cell? ⟨w.heap.size + 1, 0, none⟩ = some (.int .i64 0) ∧ wc.cell? ⟨w.heap.size + 1, 1, none⟩ = some (.int .i64 0) ∧ wc.frozen? ⟨w.heap.size + 1, 0, none⟩ = false ∧ wc.frozen? ⟨w.heap.size + 1, 1, none⟩ = false ∧ w.heap.size + 2 ≤ wc.heap.size ∧ Below w.heap.size w wc

theorem near_rel {B R : Bool} {b off n cap : Nat} {x : Int} {D : Nat → Nat} {w : World} (hD : DS w b off n D) {z : Nat} (hz : z ≤ n) (hcap : n ≤ cap) (hz0 : ∀ j, j < z → D j = 0) (hz1 : z < n → D z ≠ 0) {ao : Option Addr} (hao : (if cap = z then some ({ block := b, off := off } : Addr) else some { block := b, off := off + z }) = ao) :
    NearRel B R b n cap x D w ((w.alloc (Obj.cells #[Value.bool B, Value.slice ao (n - z) (cap - z), Value.int IntKind.i64 x, Value.bool R] 70)).alloc (Obj.cells #[Value.int IntKind.i64 0, Value.int IntKind.i64 0] 32)).drew := by
  have hb : Below w.heap.size w ((w.alloc (Obj.cells #[Value.bool B, Value.slice ao (n - z) (cap - z), Value.int IntKind.i64 x, Value.bool R] 70)).alloc (Obj.cells #[Value.int IntKind.i64 0, Value.int IntKind.i64 0] 32)).drew :=
    (((Below.refl w.heap.size w).alloc (Nat.le_refl _) _).alloc (by simp) _).drew
  by_cases h : cap = z
  · rw [if_pos h] at hao
    subst hao
    refine ⟨z, off, hide ⟨hz, hz0, hz1, (hD.below hb).empty off (fun j => hD.dig _) (by omega)⟩, by simp [go_sem], by simp [go_sem], by simp [go_sem], by simp [go_sem], by simp [go_sem], by simp [go_sem], by simp [go_sem], by simp [go_sem], by simp, hb⟩
  · rw [if_neg h] at hao
    subst hao
    refine ⟨z, off + z, hide ⟨hz, hz0, hz1, (hD.below hb).drop z hz⟩, by simp [go_sem], by simp [go_sem], by simp [go_sem], by simp [go_sem], by simp [go_sem], by simp [go_sem], by simp [go_sem], by simp [go_sem], by simp, hb⟩

theorem cells_below {wc w1 : World} {h : Nat} {v0 v1 v2 v3 r0 r1 : Value} (hb : Below wc.drew.heap.size wc.drew w1) (hsz : h + 2 ≤ wc.heap.size)
    (c0 : wc.cell? ⟨h, 0, none⟩ = some v0) (c1 : wc.cell? ⟨h, 1, none⟩ = some v1) (c2 : wc.cell? ⟨h, 2, none⟩ = some v2) (c3 : wc.cell? ⟨h, 3, none⟩ = some v3)
    (d0 : wc.cell? ⟨h + 1, 0, none⟩ = some r0) (d1 : wc.cell? ⟨h + 1, 1, none⟩ = some r1) (f0 : wc.frozen? ⟨h + 1, 0, none⟩ = false) (f1 : wc.frozen? ⟨h + 1, 1, none⟩ = false) :
    w1.cell? ⟨h, 0, none⟩ = some v0 ∧ w1.cell? ⟨h, 1, none⟩ = some v1 ∧ w1.cell? ⟨h, 2, none⟩ = some v2 ∧ w1.cell? ⟨h, 3, none⟩ = some v3 ∧
    w1.cell? ⟨h + 1, 0, none⟩ = some r0 ∧ w1.cell? ⟨h + 1, 1, none⟩ = some r1 ∧ w1.frozen? ⟨h + 1, 0, none⟩ = false ∧ w1.frozen? ⟨h + 1, 1, none⟩ = false ∧ h + 2 ≤ w1.heap.size := by
  have e : wc.drew.heap.size = wc.heap.size := rfl
  refine ⟨(hb.cell (p := ⟨h, 0, none⟩) (by show h < _; omega)).trans c0, (hb.cell (p := ⟨h, 1, none⟩) (by show h < _; omega)).trans c1, (hb.cell (p := ⟨h, 2, none⟩) (by show h < _; omega)).trans c2, (hb.cell (p := ⟨h, 3, none⟩) (by show h < _; omega)).trans c3,
    (hb.cell (p := ⟨h + 1, 0, none⟩) (by show h + 1 < _; omega)).trans d0, (hb.cell (p := ⟨h + 1, 1, none⟩) (by show h + 1 < _; omega)).trans d1, (hb.frozen (p := ⟨h + 1, 0, none⟩) (by show h + 1 < _; omega)).trans f0, (hb.frozen (p := ⟨h + 1, 1, none⟩) (by show h + 1 < _; omega)).trans f1, by have := hb.size; omega⟩

theorem cells_below0 {wc w1 : World} {h : Nat} {v0 v1 v2 v3 r0 r1 : Value} (hb : Below wc.heap.size wc w1) (hsz : h + 2 ≤ wc.heap.size)
    (c0 : wc.cell? ⟨h, 0, none⟩ = some v0) (c1 : wc.cell? ⟨h, 1, none⟩ = some v1) (c2 : wc.cell? ⟨h, 2, none⟩ = some v2) (c3 : wc.cell? ⟨h, 3, none⟩ = some v3)
    (d0 : wc.cell? ⟨h + 1, 0, none⟩ = some r0) (d1 : wc.cell? ⟨h + 1, 1, none⟩ = some r1) (f0 : wc.frozen? ⟨h + 1, 0, none⟩ = false) (f1 : wc.frozen? ⟨h + 1, 1, none⟩ = false) :
    w1.cell? ⟨h, 0, none⟩ = some v0 ∧ w1.cell? ⟨h, 1, none⟩ = some v1 ∧ w1.cell? ⟨h, 2, none⟩ = some v2 ∧ w1.cell? ⟨h, 3, none⟩ = some v3 ∧
    w1.cell? ⟨h + 1, 0, none⟩ = some r0 ∧ w1.cell? ⟨h + 1, 1, none⟩ = some r1 ∧ w1.frozen? ⟨h + 1, 0, none⟩ = false ∧ w1.frozen? ⟨h + 1, 1, none⟩ = false ∧ h + 2 ≤ w1.heap.size := by
  refine ⟨(hb.cell (p := ⟨h, 0, none⟩) (by show h < _; omega)).trans c0, (hb.cell (p := ⟨h, 1, none⟩) (by show h < _; omega)).trans c1, (hb.cell (p := ⟨h, 2, none⟩) (by show h < _; omega)).trans c2, (hb.cell (p := ⟨h, 3, none⟩) (by show h < _; omega)).trans c3,
    (hb.cell (p := ⟨h + 1, 0, none⟩) (by show h + 1 < _; omega)).trans d0, (hb.cell (p := ⟨h + 1, 1, none⟩) (by show h + 1 < _; omega)).trans d1, (hb.frozen (p := ⟨h + 1, 0, none⟩) (by show h + 1 < _; omega)).trans f0, (hb.frozen (p := ⟨h + 1, 1, none⟩) (by show h + 1 < _; omega)).trans f1, by have := hb.size; omega⟩

set_option maxHeartbeats 1000000 in
theorem nearest_any (B R : Bool) (b off n cap : Nat) (x : Int) (D : Nat → Nat) (w : World) (hD : DS w b off n D) (hcap : n ≤ cap) (hn : n ≤ 100) (hx1 : -200 ≤ x) (hx2 : x ≤ 100) :
    Calls Tryd.prog 43 #[.agg #[.bool B, .slice (some ⟨b, off, none⟩) n cap, .int .i64 x, .bool R]] w fun e w' => e = .returned (.tuple #[.agg #[.int .i64 (Dm.fC (Dm.sg B (Dm.nQ (Dm.val D n) x R)) (Dm.nE (Dm.val D n) x)), .int .i64 (Dm.fE (Dm.sg B (Dm.nQ (Dm.val D n) x R)) (Dm.nE (Dm.val D n) x))], .int .i64 (Dm.fR (Dm.sg B (Dm.nQ (Dm.val D n) x R)) (Dm.nE (Dm.val D n) x))]) ∧ Below w.heap.size w w' := by
  have hblk := hD.blk
  have hbw := ((Below.refl w.heap.size w).alloc (Nat.le_refl _) (.cells #[.bool B, .slice (some ⟨b, off, none⟩) n cap, .int .i64 x, .bool R] 70)).alloc (by simp) (.cells #[.int .i64 0, .int .i64 0] 32)
  have hbw' := hide hbw
  have hD2 := hide (hD.below hbw)
  clear hbw
  go_enter Tryd.func43, Tryd.ntmps43
  go_upto_region 1 with fail
  go_cut [] from 5 (fun wc => NearRel B R b n cap x D w wc)
  case first =>
    go_region_with (go_at_call 47; refine (noughts_any b off n cap D _ ?_).mono ?_; exact (unhide hD2).below (Below.refl _ _).drew; rintro e w1 ⟨z, rfl, hz, hz0, hz1, rfl⟩)
    all_goals
      generalize hao : (if cap = z then some ({ block := b, off := off } : Addr) else some { block := b, off := off + z }) = ao
      have Hao := hide hao
      clear hao
      go_wp2_with fail
      go_meet
      case rel => exact near_rel hD hz hcap hz0 hz1 (unhide Hao)
  case rest =>
    obtain ⟨z, off', H, c0, c1, c2, c3, d0, d1, f0, f1, hsz, hbel⟩ := hcut
    have hz := (unhide H).1
    go_upto_region 3 with fail
    generalize hy : (if -40 < x + ((n - z : Nat) : Int) - 18 then x + ((n - z : Nat) : Int) - 18 else -40) = y
    obtain ⟨q, hq⟩ : ∃ q, q = Dm.sc (Dm.val (fun j => D (z + j)) (n - z)) (x - y) R := ⟨_, rfl⟩
    obtain ⟨y1, y2, y3, hq2, ey, eq⟩ := Dm.near_facts hD.dig R hn hx1 hx2 hz (unhide H).2.1 (unhide H).2.2.1 hy hq
    have WC := hide (fun wx (h : DS wx b off' (n - z) (fun j => D (z + j))) => wholeAt_any B R b off' (n - z) (cap - z) x y _ wx h (by omega) (by omega) (by omega) (by omega) (by omega) y3)
    rw [← hq] at WC
    have EQ := hide eq
    have EY := hide ey
    clear hy hq ey eq y3
    go_region_with (first
      | (go_at_call 49; refine (unhide WC _ ?_).mono ?_; exact (unhide H).2.2.2.below (Below.refl _ _).drew; rintro e w1 ⟨rfl, hb1⟩; obtain ⟨c0', c1', c2', c3', d0', d1', f0', f1', hsz'⟩ := cells_below hb1 hsz c0 c1 c2 c3 d0 d1 f0 f1)
      | (go_at_call 48; refine (number_any B R _ x ⟨_, _, _, rfl⟩ q y _ hq2 y1 y2).mono ?_; rintro e w2 ⟨rfl, hb2⟩; obtain ⟨c0'', c1'', c2'', c3'', d0'', d1'', f0'', f1'', hsz''⟩ := cells_below0 hb2 hsz' c0' c1' c2' c3' d0' d1' f0' f1'))
    all_goals
      go_wp2
      refine bodyPost_ret (v := .tuple #[.agg #[.int .i64 (Dm.fC (Dm.sg B q) y), .int .i64 (Dm.fE (Dm.sg B q) y)], .int .i64 (Dm.fR (Dm.sg B q) y)]) (by simp [results, Tryd.results43, go_sem, d0'', d1'']) rfl ⟨?_, ?_⟩
      · rw [unhide EQ, unhide EY]
      · have e1 : Below w.heap.size w w1 := (hbel.drew).trans (hb1.mono (by simp; omega))
        have e2 : Below w.heap.size w w2 := e1.trans (hb2.mono (by omega))
        exact (e2.setCell (by simp) _).setCell (by simp) _
end Go.Proofs.YtjjioikgligaoaaDoor
