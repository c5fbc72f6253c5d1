/- Walks: plus, minus. -/
import Derived.Test.YtehnpfjmanmgpaaDoorW10
namespace Go.Proofs.YtehnpfjmanmgpaaDoor
open Go.RowKit

theorem row_drew {w : World} {base e g n cap : Nat} {R : Nat → Nat} (h : w.ownsRow base e 1 (.slice (some ⟨g, 0, none⟩) n cap) n (rowL R n)) (nq i d : Nat) :
    ((w.drewN nq).setCell ⟨g, i, none⟩ (.int .u8 (d : Int))).ownsRow base e 1 (.slice (some ⟨g, 0, none⟩) n cap) n (rowL (Dm.upd R i d) n) := by
  have h2 : (w.drewN nq).ownsRow base e 1 (.slice (some ⟨g, 0, none⟩) n cap) n (rowL R n) := h
  rw [← rowL_set]
  exact (h2.stored i _).1

set_option maxHeartbeats 1000000 in
theorem plus_any (bx ox cx b y cy n : Nat) (X Y : Nat → Nat) (w : World) (hX : DS w bx ox n X) (hY : DS w b y n Y) :
    Calls Tryd.prog 50 #[.slice (some ⟨bx, ox, none⟩) n cx, .slice (some ⟨b, y, none⟩) n cy] w fun e w' => ∃ R : Nat → Nat, e = .returned (.slice (some ⟨w.heap.size, 0, none⟩) n n) ∧ DS w' w.heap.size 0 n R ∧ (Dm.val X n + Dm.val Y n < 10 ^ n → Dm.val R n = Dm.val X n + Dm.val Y n) ∧ Below w.heap.size w w' := by
  have hl := hX.len
  obtain ⟨i0, hi, hz0, hz1, hz2⟩ := info_parts info_u8
  go_enter Tryd.func50, Tryd.ntmps50
  go_wp2_with (at_make; refine wpList_make_full _ rfl _ _ 49 rfl w.heap.size 5 i0 (.int .u8 0) 1 Tryd.underlying49 hi hz0 hz1 _ _ _ _ n rfl rfl rfl rfl ?c1 ?c2 ?c3 ?_)
  case c1 => rw [hz2]; omega
  case c2 => unfold maxLen; omega
  case c3 => exact Nat.le_refl _
  intro w1 hown hgrow
  have hb1 : Below w.heap.size w w1 := (Below.refl _ _).grown hgrow (Nat.le_refl _) (fun k hk => by simp at hk)
  rw [toList_madeCells_one, rowL_zero] at hown
  clear hgrow hi hz0 hz1 hz2
  go_wp2
  go_loopw [6, 7] (fun a i wr => ∃ (m q : Nat) (R : Nat → Nat), m ≤ n ∧ i = .int .i64 ((m : Int) - 1) ∧ a = .int .u8 (q : Int) ∧ q ≤ 1 ∧ Hid (∀ j, R j < 10) ∧ Hid (Dm.suf X n (n - m) + Dm.suf Y n (n - m) = Dm.suf R n (n - m) + q * 10 ^ (n - m)) ∧ wr.ownsRow w.heap.size 5 1 (.slice (some ⟨w.heap.size, 0, none⟩) n n) n (rowL R n) ∧ Below w.heap.size w wr) (fun _ i _ => (intOf i + 1).toNat)
  case atStart => exact ⟨n, 0, _, Nat.le_refl _, rfl, rfl, by omega, hide (fun _ => by decide), hide (by simp [Dm.suf]), hown, hb1⟩
  case round =>
    obtain ⟨m, q, R, hm, rfl, rfl, hq, HR, H, hownr, hbr⟩ := hrel
    clear hown hb1
    cases m with
    | zero =>
      have HD := hide (DS.own hownr (unhide HR) hl)
      go_wp2
      go_ret
      refine ⟨R, rfl, unhide HD, fun hs => ?_, hbr⟩
      have h := unhide H
      rw [Nat.sub_zero, ← Dm.val_suf_all, ← Dm.val_suf_all, ← Dm.val_suf_all] at h
      rcases (show q = 0 ∨ q = 1 by omega) with g | g
      · rw [g] at h; omega
      · rw [g] at h; omega
    | succ m' =>
      rw [show ((m' + 1 : Nat) : Int) - 1 = (m' : Int) by omega]
      have hfr := hownr.frozenAt m'
      have hcl := (hownr.cellAt m' (by omega)).trans (rowL_at R (by omega))
      have hx := (hX.below hbr).cell m' (by omega)
      have hy := (hY.below hbr).cell m' (by omega)
      have hxd := hX.dig m'
      have hyd := hY.dig m'
      have hst := hide (fun nq => row_drew hownr nq m' ((X m' + Y m' + q) % 10))
      have HR2 := hide (Dm.upd_lt (unhide HR) (d := (X m' + Y m' + q) % 10) (by omega) m')
      have H2 := hide (Dm.plus_step (X := X) (Y := Y) (by omega) (unhide H))
      have i1 : (m' : Int) < (n : Int) := by omega
      clear hownr HR H
      go_wp2
      go_quiet (fail)
      go_wp2
      rw [show ((X m' : Int) + (Y m' : Int) + (q : Int)) % 10 = (((X m' + Y m' + q) % 10 : Nat) : Int) by omega, show ((X m' : Int) + (Y m' : Int) + (q : Int)) / 10 = (((X m' + Y m' + q) / 10 : Nat) : Int) by omega]
      refine ⟨⟨m', _, _, by omega, rfl, rfl, by omega, HR2, H2, unhide hst nq, (below_drewN hbr nq).setCell (Nat.le_refl _) _⟩, ?_⟩
      simp [intOf]
set_option maxHeartbeats 1000000 in
theorem minus_any (bx ox cx b y cy n : Nat) (X Y : Nat → Nat) (w : World) (hX : DS w bx ox n X) (hY : DS w b y n Y) :
    Calls Tryd.prog 52 #[.slice (some ⟨bx, ox, none⟩) n cx, .slice (some ⟨b, y, none⟩) n cy] w fun e w' => ∃ R : Nat → Nat, e = .returned (.slice (some ⟨w.heap.size, 0, none⟩) n n) ∧ DS w' w.heap.size 0 n R ∧ (Dm.val Y n ≤ Dm.val X n → Dm.val R n = Dm.val X n - Dm.val Y n) ∧ Below w.heap.size w w' := by
  have hl := hX.len
  obtain ⟨i0, hi, hz0, hz1, hz2⟩ := info_parts info_u8
  go_enter Tryd.func52, Tryd.ntmps52
  go_wp2_with (at_make; refine wpList_make_full _ rfl _ _ 49 rfl w.heap.size 5 i0 (.int .u8 0) 1 Tryd.underlying49 hi hz0 hz1 _ _ _ _ n rfl rfl rfl rfl ?c1 ?c2 ?c3 ?_)
  case c1 => rw [hz2]; omega
  case c2 => unfold maxLen; omega
  case c3 => exact Nat.le_refl _
  intro w1 hown hgrow
  have hb1 : Below w.heap.size w w1 := (Below.refl _ _).grown hgrow (Nat.le_refl _) (fun k hk => by simp at hk)
  rw [toList_madeCells_one, rowL_zero] at hown
  clear hgrow hi hz0 hz1 hz2
  go_wp2
  go_loopw [6, 7] (fun a i wr => ∃ (m q : Nat) (R : Nat → Nat), m ≤ n ∧ i = .int .i64 ((m : Int) - 1) ∧ a = .int .u8 (q : Int) ∧ q ≤ 1 ∧ Hid (∀ j, R j < 10) ∧ Hid (Dm.suf X n (n - m) + q * 10 ^ (n - m) = Dm.suf Y n (n - m) + Dm.suf R n (n - m)) ∧ wr.ownsRow w.heap.size 5 1 (.slice (some ⟨w.heap.size, 0, none⟩) n n) n (rowL R n) ∧ Below w.heap.size w wr) (fun _ i _ => (intOf i + 1).toNat)
  case atStart => exact ⟨n, 0, _, Nat.le_refl _, rfl, rfl, by omega, hide (fun _ => by decide), hide (by simp [Dm.suf]), hown, hb1⟩
  case round =>
    obtain ⟨m, q, R, hm, rfl, rfl, hq, HR, H, hownr, hbr⟩ := hrel
    clear hown hb1
    cases m with
    | zero =>
      have HD := hide (DS.own hownr (unhide HR) hl)
      go_wp2
      go_ret
      refine ⟨R, rfl, unhide HD, fun hs => ?_, hbr⟩
      have h := unhide H
      rw [Nat.sub_zero, ← Dm.val_suf_all, ← Dm.val_suf_all, ← Dm.val_suf_all] at h
      have hv := Dm.val_lt (unhide HR) n
      rcases (show q = 0 ∨ q = 1 by omega) with g | g
      · rw [g] at h; omega
      · rw [g] at h; omega
    | succ m' =>
      rw [show ((m' + 1 : Nat) : Int) - 1 = (m' : Int) by omega]
      have hfr := hownr.frozenAt m'
      have hcl := (hownr.cellAt m' (by omega)).trans (rowL_at R (by omega))
      have hx := (hX.below hbr).cell m' (by omega)
      have hy := (hY.below hbr).cell m' (by omega)
      have hxd := hX.dig m'
      have hyd := hY.dig m'
      have hst := hide (fun nq => row_drew hownr nq m' ((10 + X m' - Y m' - q) % 10))
      have HR2 := hide (Dm.upd_lt (unhide HR) (d := (10 + X m' - Y m' - q) % 10) (by omega) m')
      have H2 := hide (Dm.minus_step (X := X) (Y := Y) (by omega) hyd hq (unhide H) hxd)
      have i1 : (m' : Int) < (n : Int) := by omega
      clear hownr HR H
      go_wp2
      go_quiet (fail)
      go_wp2
      rw [show (10 + (X m' : Int) - (Y m' : Int) - (q : Int)) % 10 = (((10 + X m' - Y m' - q) % 10 : Nat) : Int) by omega, show 1 - (10 + (X m' : Int) - (Y m' : Int) - (q : Int)) / 10 = ((1 - (10 + X m' - Y m' - q) / 10 : Nat) : Int) by omega]
      refine ⟨⟨m', _, _, by omega, rfl, rfl, by omega, HR2, H2, unhide hst nq, (below_drewN hbr nq).setCell (Nat.le_refl _) _⟩, ?_⟩
      simp [intOf]
end Go.Proofs.YtehnpfjmanmgpaaDoor
