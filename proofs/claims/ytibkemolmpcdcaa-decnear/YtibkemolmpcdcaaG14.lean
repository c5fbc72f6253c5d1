/- Walks: plus, minus. -/
import Derived.Test.YtibkemolmpcdcaaG13
import Derived.Lib.BytesEntry
import Derived.Laws.Externs
import Derived.Test.YtibkemolmpcdcaaG01
import Derived.Test.YtibkemolmpcdcaaG09
namespace Go.Proofs.Ytibkemolmpcdcaa
open Go.RowKit

theorem row_drew {w : World} {base e g n cap : Nat} {R : Nat → Nat} (h : w.ownsRow base e 1 (.slice (some ⟨g, 0, none⟩) n cap) n (rowL R n)) (nq i d : Nat) :
    ((w.drewN nq).setCell ⟨g, i, none⟩ (.int .u8 (d : Int))).ownsRow base e 1 (.slice (some ⟨g, 0, none⟩) n cap) n (rowL (Dm.upd R i d) n) := by
  have h2 : (w.drewN nq).ownsRow base e 1 (.slice (some ⟨g, 0, none⟩) n cap) n (rowL R n) := h
  rw [← rowL_set]
  exact (h2.stored i _).1

set_option maxHeartbeats 1000000 in
theorem plus_any (bx ox cx b y cy n : Nat) (X Y : Nat → Nat) (w : World) (hX : DS w bx ox n X) (hY : DS w b y n Y) :
    Calls Try.prog 63 #[.slice (some ⟨bx, ox, none⟩) n cx, .slice (some ⟨b, y, none⟩) n cy] w fun e w' => ∃ R : Nat → Nat, e = .returned (.slice (some ⟨w.heap.size, 0, none⟩) n n) ∧ DS w' w.heap.size 0 n R ∧ (Dm.val X n + Dm.val Y n < 10 ^ n → Dm.val R n = Dm.val X n + Dm.val Y n) ∧ Below w.heap.size w w' := by
  have hl := hX.len
  obtain ⟨i0, hi, hz0, hz1, hz2⟩ := info_parts info_u8
  go_enter Try.func63, Try.ntmps63
  go_wp2_with (at_make; refine wpList_make_full _ rfl _ _ 54 rfl w.heap.size 5 i0 (.int .u8 0) 1 Try.underlying54 hi hz0 hz1 _ _ _ _ n rfl rfl rfl rfl ?c1 ?c2 ?c3 ?_)
  case c1 => rw [hz2]; omega
  case c2 => unfold maxLen; omega
  case c3 => exact Nat.le_refl _
  intro w1 hown hgrow
  have hb1 : Below w.heap.size w w1 := (Below.refl _ _).grown hgrow (Nat.le_refl _) (fun k hk => by simp at hk)
  rw [toList_madeCells_one, rowL_zero] at hown
  clear hgrow hi hz0 hz1 hz2
  go_wp2
  go_loopw [6, 7] (fun a i wr => ∃ (m q : Nat) (R : Nat → Nat), m ≤ n ∧ i = .int .i64 ((m : Int) - 1) ∧ a = .int .u8 (q : Int) ∧ q ≤ 1 ∧ Hid (∀ j, R j < 10) ∧ Hid (Dm.suf X n (n - m) + Dm.suf Y n (n - m) = Dm.suf R n (n - m) + q * 10 ^ (n - m)) ∧ wr.ownsRow w.heap.size 5 1 (.slice (some ⟨w.heap.size, 0, none⟩) n n) n (rowL R n) ∧ Below w.heap.size w wr) (fun _ i _ => (intOf i + 1).toNat)
  case atStart => exact ⟨n, 0, _, Nat.le_refl _, rfl, rfl, by omega, hide (fun _ => by decide), hide (by simp [Dm.suf]), hown, hb1⟩
  case round =>
    obtain ⟨m, q, R, hm, rfl, rfl, hq, HR, H, hownr, hbr⟩ := hrel
    clear hown hb1
    cases m with
    | zero =>
      have HD := hide (DS.own hownr (unhide HR) hl)
      go_wp2
      go_ret
      refine ⟨R, rfl, unhide HD, fun hs => ?_, hbr⟩
      have h := unhide H
      rw [Nat.sub_zero, ← Dm.val_suf_all, ← Dm.val_suf_all, ← Dm.val_suf_all] at h
      rcases (show q = 0 ∨ q = 1 by omega) with g | g
      · rw [g] at h; omega
      · rw [g] at h; omega
    | succ m' =>
      rw [show ((m' + 1 : Nat) : Int) - 1 = (m' : Int) by omega]
      have hfr := hownr.frozenAt m'
      have hcl := (hownr.cellAt m' (by omega)).trans (rowL_at R (by omega))
      have hx := (hX.below hbr).cell m' (by omega)
      have hy := (hY.below hbr).cell m' (by omega)
      have hxd := hX.dig m'
      have hyd := hY.dig m'
      have hst := hide (fun nq => row_drew hownr nq m' ((X m' + Y m' + q) % 10))
      have HR2 := hide (Dm.upd_lt (unhide HR) (d := (X m' + Y m' + q) % 10) (by omega) m')
      have H2 := hide (Dm.plus_step (X := X) (Y := Y) (by omega) (unhide H))
      have i1 : (m' : Int) < (n : Int) := by omega
      clear hownr HR H
      go_wp2
      go_quiet (fail)
      go_wp2
      rw [show ((X m' : Int) + (Y m' : Int) + (q : Int)) % 10 = (((X m' + Y m' + q) % 10 : Nat) : Int) by omega, show ((X m' : Int) + (Y m' : Int) + (q : Int)) / 10 = (((X m' + Y m' + q) / 10 : Nat) : Int) by omega]
      refine ⟨⟨m', _, _, by omega, rfl, rfl, by omega, HR2, H2, unhide hst nq, (below_drewN hbr nq).setCell (Nat.le_refl _) _⟩, ?_⟩
      simp [intOf]
set_option maxHeartbeats 1000000 in
theorem minus_any (bx ox cx b y cy n : Nat) (X Y : Nat → Nat) (w : World) (hX : DS w bx ox n X) (hY : DS w b y n Y) :
    Calls Try.prog 65 #[.slice (some ⟨bx, ox, none⟩) n cx, .slice (some ⟨b, y, none⟩) n cy] w fun e w' => ∃ R : Nat → Nat, e = .returned (.slice (some ⟨w.heap.size, 0, none⟩) n n) ∧ DS w' w.heap.size 0 n R ∧ (Dm.val Y n ≤ Dm.val X n → Dm.val R n = Dm.val X n - Dm.val Y n) ∧ Below w.heap.size w w' := by
  have hl := hX.len
  obtain ⟨i0, hi, hz0, hz1, hz2⟩ := info_parts info_u8
  go_enter Try.func65, Try.ntmps65
  go_wp2_with (at_make; refine wpList_make_full _ rfl _ _ 54 rfl w.heap.size 5 i0 (.int .u8 0) 1 Try.underlying54 hi hz0 hz1 _ _ _ _ n rfl rfl rfl rfl ?c1 ?c2 ?c3 ?_)
  case c1 => rw [hz2]; omega
  case c2 => unfold maxLen; omega
  case c3 => exact Nat.le_refl _
  intro w1 hown hgrow
  have hb1 : Below w.heap.size w w1 := (Below.refl _ _).grown hgrow (Nat.le_refl _) (fun k hk => by simp at hk)
  rw [toList_madeCells_one, rowL_zero] at hown
  clear hgrow hi hz0 hz1 hz2
  go_wp2
  go_loopw [6, 7] (fun a i wr => ∃ (m q : Nat) (R : Nat → Nat), m ≤ n ∧ i = .int .i64 ((m : Int) - 1) ∧ a = .int .u8 (q : Int) ∧ q ≤ 1 ∧ Hid (∀ j, R j < 10) ∧ Hid (Dm.suf X n (n - m) + q * 10 ^ (n - m) = Dm.suf Y n (n - m) + Dm.suf R n (n - m)) ∧ wr.ownsRow w.heap.size 5 1 (.slice (some ⟨w.heap.size, 0, none⟩) n n) n (rowL R n) ∧ Below w.heap.size w wr) (fun _ i _ => (intOf i + 1).toNat)
  case atStart => exact ⟨n, 0, _, Nat.le_refl _, rfl, rfl, by omega, hide (fun _ => by decide), hide (by simp [Dm.suf]), hown, hb1⟩
  case round =>
    obtain ⟨m, q, R, hm, rfl, rfl, hq, HR, H, hownr, hbr⟩ := hrel
    clear hown hb1
    cases m with
    | zero =>
      have HD := hide (DS.own hownr (unhide HR) hl)
      go_wp2
      go_ret
      refine ⟨R, rfl, unhide HD, fun hs => ?_, hbr⟩
      have h := unhide H
      rw [Nat.sub_zero, ← Dm.val_suf_all, ← Dm.val_suf_all, ← Dm.val_suf_all] at h
      have hv := Dm.val_lt (unhide HR) n
      rcases (show q = 0 ∨ q = 1 by omega) with g | g
      · rw [g] at h; omega
      · rw [g] at h; omega
    | succ m' =>
      rw [show ((m' + 1 : Nat) : Int) - 1 = (m' : Int) by omega]
      have hfr := hownr.frozenAt m'
      have hcl := (hownr.cellAt m' (by omega)).trans (rowL_at R (by omega))
      have hx := (hX.below hbr).cell m' (by omega)
      have hy := (hY.below hbr).cell m' (by omega)
      have hxd := hX.dig m'
      have hyd := hY.dig m'
      have hst := hide (fun nq => row_drew hownr nq m' ((10 + X m' - Y m' - q) % 10))
      have HR2 := hide (Dm.upd_lt (unhide HR) (d := (10 + X m' - Y m' - q) % 10) (by omega) m')
      have H2 := hide (Dm.minus_step (X := X) (Y := Y) (by omega) hyd hq (unhide H) hxd)
      have i1 : (m' : Int) < (n : Int) := by omega
      clear hownr HR H
      go_wp2
      go_quiet (fail)
      go_wp2
      rw [show (10 + (X m' : Int) - (Y m' : Int) - (q : Int)) % 10 = (((10 + X m' - Y m' - q) % 10 : Nat) : Int) by omega, show 1 - (10 + (X m' : Int) - (Y m' : Int) - (q : Int)) / 10 = ((1 - (10 + X m' - Y m' - q) / 10 : Nat) : Int) by omega]
      refine ⟨⟨m', _, _, by omega, rfl, rfl, by omega, HR2, H2, unhide hst nq, (below_drewN hbr nq).setCell (Nat.le_refl _) _⟩, ?_⟩
      simp [intOf]
end Go.Proofs.Ytibkemolmpcdcaa

/- Walks: less. -/
namespace Go.Proofs.Ytibkemolmpcdcaa
open Go.RowKit

def xsI (X : Nat → Nat) (n : Nat) : List Int := (List.range n).map fun j => (X j : Int)
def mkB (X : Nat → Nat) (n : Nat) : ByteArray := ⟨(Lib.bytesOf (xsI X n)).toArray⟩
theorem mkB_size (X : Nat → Nat) (n : Nat) : (mkB X n).size = n := by
  show (Lib.bytesOf (xsI X n)).toArray.size = n
  simp [Lib.bytesOf, xsI]
theorem mkB_at (X : Nat → Nat) {n i : Nat} (h : i < n) : (mkB X n)[i]! = (X i).toUInt8 := by
  rw [getElem!_pos _ i (by rw [mkB_size]; exact h)]
  have hs : i < (Lib.bytesOf (xsI X n)).toArray.size := by simp [Lib.bytesOf, xsI, h]
  show ((Lib.bytesOf (xsI X n)).toArray)[i]'hs = _
  simp [Lib.bytesOf, xsI]

theorem u8_ne {a b : Nat} (ha : a < 10) (hb : b < 10) : (a.toUInt8 != b.toUInt8) = decide (a ≠ b) := by
  have e : (a.toUInt8 = b.toUInt8) ↔ a = b := by
    rw [← UInt8.toNat_inj]
    simp
    omega
  rw [Bool.eq_iff_iff]
  simp [e]
theorem u8_lt {a b : Nat} (ha : a < 10) (hb : b < 10) : (a.toUInt8 < b.toUInt8) ↔ a < b := by
  simp [UInt8.lt_iff_toNat_lt]
  omega

theorem val_first {X Y : Nat → Nat} (hX : ∀ j, X j < 10) {n i : Nat} (hi : i < n) (h : ∀ j, j < i → X j = Y j) (hlt : X i < Y i) : Dm.val X n < Dm.val Y n := by
  have a := Dm.val_suf X n (n - i) (by omega)
  have b := Dm.val_suf Y n (n - i) (by omega)
  rw [show n - (n - i) = i by omega] at a b
  obtain ⟨k, hk⟩ : ∃ k, n - i = k + 1 := ⟨n - i - 1, by omega⟩
  rw [hk, Dm.suf, show n - (k + 1) = i by omega] at a b
  rw [Dm.val_congr i h] at a
  have l := Dm.suf_lt hX n k
  have m : (X i + 1) * 10 ^ k ≤ Y i * 10 ^ k := Nat.mul_le_mul_right _ hlt
  rw [Nat.add_mul] at m
  omega

theorem cmp_dig {X Y : Nat → Nat} (hX : ∀ j, X j < 10) (hY : ∀ j, Y j < 10) (n : Nat) : decide (Extern.BytealgCompare.cmp (mkB X n) (mkB Y n) < 0) = decide (Dm.val X n < Dm.val Y n) := by
  unfold Extern.BytealgCompare.cmp
  rw [mkB_size, mkB_size, Nat.min_self]
  have key : ∀ j, j < n → ((mkB X n)[j]! != (mkB Y n)[j]!) = decide (X j ≠ Y j) := fun j hj => by rw [mkB_at X hj, mkB_at Y hj, u8_ne (hX j) (hY j)]
  cases hf : (List.range n).find? fun i => (mkB X n)[i]! != (mkB Y n)[i]! with
  | none =>
    have hall : ∀ j, j < n → X j = Y j := by
      intro j hj
      have := List.find?_eq_none.1 hf j (by simpa using hj)
      rw [key j hj] at this
      simpa using this
    rw [Dm.val_congr n hall]
    simp
  | some i =>
    obtain ⟨h1, h2, h3⟩ := List.find?_range_eq_some.1 hf
    have hi : i < n := by simpa using h2
    rw [key i hi] at h1
    have hpre : ∀ j, j < i → X j = Y j := by
      intro j hj
      have := h3 j hj
      rw [key j (by omega)] at this
      simpa using this
    simp only [mkB_at X hi, mkB_at Y hi, u8_lt (hX i) (hY i)]
    rcases Nat.lt_trichotomy (X i) (Y i) with g | g | g
    · have := val_first hX hi hpre g
      simp [g, this]
    · simp [g] at h1
    · have := val_first hY hi (fun j hj => (hpre j hj).symm) g
      rw [if_neg (by omega)]
      simp
      omega

theorem run_compare (bx ox cx b y cy n : Nat) (X Y : Nat → Nat) (w : World) (hX : DS w bx ox n X) (hY : DS w b y n Y) :
    (callFunc 101 #[.slice (some ⟨bx, ox, none⟩) n cx, .slice (some ⟨b, y, none⟩) n cy]).run Try.prog w = .ok (.value (.int .i64 (Extern.BytealgCompare.cmp (mkB X n) (mkB Y n)))) w := by
  have ld : ∀ (b o : Nat) (D : Nat → Nat), DS w b o n D → (Extern.Bytes.loadBytes ⟨b, o, none⟩ n .empty).run Try.prog w = .ok (mkB D n) w := by
    intro b o D h
    have := Lib.run_loadBytesX (P := Try.prog) w (xsI D n) ⟨b, o, none⟩ .empty (fun j x hj => by
      have hjn : j < n := by have := (List.getElem?_eq_some_iff.1 hj).1; simpa [xsI] using this
      rw [Addr.add_lit, h.cell j hjn]
      simp [xsI, hjn] at hj
      rw [hj])
    rw [show (xsI D n).length = n by simp [xsI]] at this
    rw [this]
    congr 1
    unfold mkB
    apply ByteArray.ext
    simp
  rw [run_callFunc_extern Try.func101 (by kernel_rfl) (by kernel_rfl) (by kernel_rfl) (e := Extern.BytealgCompare.compare) (by kernel_rfl)]
  change (Sem.run _ (do pure (goInt (Extern.BytealgCompare.cmp (← Extern.Bytes.bytesOf (.slice (some ⟨bx, ox, none⟩) n cx)) (← Extern.Bytes.bytesOf (.slice (some ⟨b, y, none⟩) n cy)))) : Sem Value) w).andThen _ = _
  simp only [Extern.Bytes.bytesOf, Sem.run_bind, Sem.run_pure, ld bx ox X hX, ld b y Y hY, Result.andThen, goInt]

set_option maxHeartbeats 400000 in
theorem less_any (bx ox cx b y cy n : Nat) (X Y : Nat → Nat) (w : World) (hX : DS w bx ox n X) (hY : DS w b y n Y) :
    Calls Try.prog 64 #[.slice (some ⟨bx, ox, none⟩) n cx, .slice (some ⟨b, y, none⟩) n cy] w fun e w' => e = .returned (.bool (decide (Dm.val X n < Dm.val Y n))) ∧ w' = w := by
  have hr := run_compare bx ox cx b y cy n X Y w hX hY
  have E := hide (cmp_dig hX.dig hY.dig n)
  generalize Extern.BytealgCompare.cmp (mkB X n) (mkB Y n) = v at *
  go_enter Try.func64, Try.ntmps64
  go_wp2
  go_ret
  rw [← unhide E]
  exact ⟨rfl, rfl⟩
end Go.Proofs.Ytibkemolmpcdcaa

/- Walks: sum. -/
namespace Go.Proofs.Ytibkemolmpcdcaa
open Go.RowKit

/-- behind sum's third statement: the two columns -/
def SumRel (c1 c2 : Int) (W z1 z2 : Nat) (w : World) (a b : Value) (wc : World) : Prop :=
  ∃ g1 k1 g2 k2, a = .slice (some ⟨g1, 0, none⟩) W k1 ∧ b = .slice (some ⟨g2, 0, none⟩) W k2 ∧ Hid (W ≤ k1 ∧ W ≤ k2 ∧ DS wc g1 0 W (Dm.cl c1.natAbs W z1) ∧ DS wc g2 0 W (Dm.cl c2.natAbs W z2)) ∧
    wc.cell? ⟨w.heap.size, 0, none⟩ = some (.int .i64 c1) ∧ wc.cell? ⟨w.heap.size + 1, 0, none⟩ = some (.int .i64 c2) ∧
    wc.cell? ⟨w.heap.size + 1 + 1, 0, none⟩ = some (.bool false) ∧ wc.cell? ⟨w.heap.size + 1 + 1, 1, none⟩ = some (.slice none 0 0) ∧ wc.cell? ⟨w.heap.size + 1 + 1, 2, none⟩ = some (.int .i64 0) ∧ wc.cell? ⟨w.heap.size + 1 + 1, 3, none⟩ = some (.bool false) ∧
    wc.frozen? ⟨w.heap.size + 1 + 1, 0, none⟩ = false ∧ wc.frozen? ⟨w.heap.size + 1 + 1, 1, none⟩ = false ∧ wc.frozen? ⟨w.heap.size + 1 + 1, 2, none⟩ = false ∧ wc.frozen? ⟨w.heap.size + 1 + 1, 3, none⟩ = false ∧ w.heap.size + 3 ≤ wc.heap.size ∧ Below w.heap.size w wc

theorem sum_rel {c1 x1 c2 x2 : Int} {W z1 z2 g1 k1 g2 k2 : Nat} {w w1 w2 : World}
    (hb1 : Below (((w.alloc (.cells #[.int .i64 c1, .int .i64 x1] 23)).alloc (.cells #[.int .i64 c2, .int .i64 x2] 23)).alloc (.cells #[.bool false, .slice none 0 0, .int .i64 0, .bool false] 56)).drew.heap.size
      (((w.alloc (.cells #[.int .i64 c1, .int .i64 x1] 23)).alloc (.cells #[.int .i64 c2, .int .i64 x2] 23)).alloc (.cells #[.bool false, .slice none 0 0, .int .i64 0, .bool false] 56)).drew w1)
    (hb2 : Below w1.heap.size w1 w2) (hk1 : W ≤ k1) (hk2 : W ≤ k2) (hD1 : DS w1 g1 0 W (Dm.cl c1.natAbs W z1)) (hD2 : DS w2 g2 0 W (Dm.cl c2.natAbs W z2)) :
    SumRel c1 c2 W z1 z2 w (.slice (some ⟨g1, 0, none⟩) W k1) (.slice (some ⟨g2, 0, none⟩) W k2) w2 := by
  have s1 := hb1.size
  simp at s1
  have hb := hb1.trans (hb2.mono hb1.size)
  obtain ⟨hc, hf⟩ := bcell hb
  have hw : Below w.heap.size w (((w.alloc (.cells #[.int .i64 c1, .int .i64 x1] 23)).alloc (.cells #[.int .i64 c2, .int .i64 x2] 23)).alloc (.cells #[.bool false, .slice none 0 0, .int .i64 0, .bool false] 56)).drew :=
    ((((Below.refl w.heap.size w).alloc (Nat.le_refl _) _).alloc (by simp) _).alloc (by simp; omega) _).drew
  have s2 := hb2.size
  refine ⟨g1, k1, g2, k2, rfl, rfl, hide ⟨hk1, hk2, hD1.below hb2, hD2⟩, ?_, ?_, ?_, ?_, ?_, ?_, ?_, ?_, ?_, ?_, by omega, hw.trans (hb.mono (by simp; omega))⟩
  all_goals first | (rw [hc _ _ (by simp <;> omega)]; simp [go_sem]; done) | (rw [hf _ _ (by simp <;> omega)]; simp [go_sem]; done)

theorem DS.setCell {w : World} {b off n : Nat} {D : Nat → Nat} (h : DS w b off n D) {a : Addr} (ha : a.block ≠ b) (v : Value) : DS (w.setCell a v) b off n D :=
  ⟨by simpa [World.setCell] using h.blk, fun j hj => (World.cell?_of_block (w := w) (a := ⟨b, off + j, none⟩) (Below.heap_setCell w a v b (fun e => ha e.symm))).trans (h.cell j hj), h.dig, h.len⟩

theorem sum_cells {wc w3 : World} {h nq : Nat} {v0 v1 v2 v3 : Value} (hb : Below (wc.drewN nq).heap.size (wc.drewN nq) w3) (hsz : h + 3 ≤ wc.heap.size)
    (r0 : wc.cell? ⟨h + 1 + 1, 0, none⟩ = some v0) (r1 : wc.cell? ⟨h + 1 + 1, 1, none⟩ = some v1) (r2 : wc.cell? ⟨h + 1 + 1, 2, none⟩ = some v2) (r3 : wc.cell? ⟨h + 1 + 1, 3, none⟩ = some v3)
    (f0 : wc.frozen? ⟨h + 1 + 1, 0, none⟩ = false) (f1 : wc.frozen? ⟨h + 1 + 1, 1, none⟩ = false) (f2 : wc.frozen? ⟨h + 1 + 1, 2, none⟩ = false) (f3 : wc.frozen? ⟨h + 1 + 1, 3, none⟩ = false) :
    w3.cell? ⟨h + 1 + 1, 0, none⟩ = some v0 ∧ w3.cell? ⟨h + 1 + 1, 1, none⟩ = some v1 ∧ w3.cell? ⟨h + 1 + 1, 2, none⟩ = some v2 ∧ w3.cell? ⟨h + 1 + 1, 3, none⟩ = some v3 ∧
    w3.frozen? ⟨h + 1 + 1, 0, none⟩ = false ∧ w3.frozen? ⟨h + 1 + 1, 1, none⟩ = false ∧ w3.frozen? ⟨h + 1 + 1, 2, none⟩ = false ∧ w3.frozen? ⟨h + 1 + 1, 3, none⟩ = false ∧ h + 3 ≤ w3.heap.size := by
  have e : (wc.drewN nq).heap.size = wc.heap.size := rfl
  have l : h + 1 + 1 < (wc.drewN nq).heap.size := by omega
  exact ⟨(hb.cell (p := ⟨h + 1 + 1, 0, none⟩) l).trans r0, (hb.cell (p := ⟨h + 1 + 1, 1, none⟩) l).trans r1, (hb.cell (p := ⟨h + 1 + 1, 2, none⟩) l).trans r2, (hb.cell (p := ⟨h + 1 + 1, 3, none⟩) l).trans r3,
    (hb.frozen (p := ⟨h + 1 + 1, 0, none⟩) l).trans f0, (hb.frozen (p := ⟨h + 1 + 1, 1, none⟩) l).trans f1, (hb.frozen (p := ⟨h + 1 + 1, 2, none⟩) l).trans f2, (hb.frozen (p := ⟨h + 1 + 1, 3, none⟩) l).trans f3, by have := hb.size; omega⟩

theorem sum_facts {x1 x2 low high : Int} (hlow : (if x2 < x1 then x2 else x1) = low) (hhigh : (if x1 < x2 then x2 else x1) = high) (a3 : -40 ≤ x1) (a4 : x1 ≤ 40) (b3 : -40 ≤ x2) (b4 : x2 ≤ 40) :
    ∃ W z1 z2 : Nat, high - low + 18 + 1 = (W : Int) ∧ x1 - low = (z1 : Int) ∧ x2 - low = (z2 : Int) ∧ z1 + 18 < W ∧ z2 + 18 < W ∧ W ≤ 99 ∧ -40 ≤ low ∧ low ≤ 40 ∧ low = min x1 x2 := by
  refine ⟨(high - low + 18 + 1).toNat, (x1 - low).toNat, (x2 - low).toNat, ?_⟩
  split at hlow <;> split at hhigh <;> omega

set_option maxHeartbeats 1000000 in
theorem dsum_any (c1 x1 c2 x2 : Int) (w : World) (a1 : -1000000000000000000 < c1) (a2 : c1 < 1000000000000000000) (a3 : -40 ≤ x1) (a4 : x1 ≤ 40)
    (b1 : -1000000000000000000 < c2) (b2 : c2 < 1000000000000000000) (b3 : -40 ≤ x2) (b4 : x2 ≤ 40) :
    Calls Try.prog 34 #[.agg #[.int .i64 c1, .int .i64 x1], .agg #[.int .i64 c2, .int .i64 x2]] w fun e w' => ∃ (B : Bool) (g W cap : Nat) (D : Nat → Nat), e = .returned (.agg #[.bool B, .slice (some ⟨g, 0, none⟩) W cap, .int .i64 (min x1 x2), .bool false]) ∧ W ≤ cap ∧ W ≤ 99 ∧ DS w' g 0 W D ∧ Dm.sg B (Dm.val D W) = Dm.addS c1 x1 c2 x2 ∧ Below w.heap.size w w' := by
  go_enter Try.func34, Try.ntmps34
  go_upto_region 3 with fail
  generalize hlow : (if x2 < x1 then x2 else x1) = low
  generalize hhigh : (if x1 < x2 then x2 else x1) = high
  obtain ⟨W, z1, z2, hW, e1, e2, h1, h2, hW9, l1, l2, l3⟩ := sum_facts hlow hhigh a3 a4 b3 b4
  rw [hW]
  have L3 := hide l3
  have E1 := hide e1
  have E2 := hide e2
  clear hlow hhigh hW l3 e1 e2
  go_cut [7, 8] from 11 (fun a b wc => SumRel c1 c2 W z1 z2 w a b wc)
  case first =>
    go_region_with (first
      | (go_at_call_of 62 (Value.int IntKind.i64 c1); refine (column_any c1 x1 low W z1 _ a1 a2 (by omega) (unhide E1) (by omega) (by omega) (by omega)).mono ?_; rintro e w1 ⟨g1, k1, rfl, hk1, hD1, hb1⟩; obtain ⟨hc1, hf1⟩ := bcell hb1)
      | (go_at_call_of 62 (Value.int IntKind.i64 c2); refine (column_any c2 x2 low W z2 _ b1 b2 (by omega) (unhide E2) (by omega) (by omega) (by omega)).mono ?_; rintro e w2 ⟨g2, k2, rfl, hk2, hD2, hb2⟩))
    all_goals
      go_wp2_with fail
      go_meet
      case rel => exact sum_rel hb1 hb2 hk1 hk2 hD1 hD2
  case rest =>
    obtain ⟨g1, k1, g2, k2, rfl, rfl, HH, p0, q0, r0, r1, r2, r3, f0, f1, f2, f3, hsz, hbel⟩ := hcut
    have X := unhide HH
    have HX := hide X.2.2.1
    have HY := hide X.2.2.2
    clear X HH
    have V1 := hide (Dm.val_cl (N := c1.natAbs) (W := W) (z := z1) (by omega) (Dm.col_lt (by omega) h1).2)
    have V2 := hide (Dm.val_cl (N := c2.natAbs) (W := W) (z := z2) (by omega) (Dm.col_lt (by omega) h2).2)
    by_cases s1 : c1 < 0
    · by_cases s2 : c2 < 0
      · go_wp2
        go_quiet (fail)
        go_wp2_with fail
        refine (plus_any _ _ _ _ _ _ W _ _ _ ((unhide HX).below (below_drewN (Below.refl _ _) nq)) ((unhide HY).below (below_drewN (Below.refl _ _) nq))).mono ?_
        rintro e w3 ⟨R, rfl, hR, hv, hb3⟩
        have hv' := hide (hv (by rw [unhide V1, unhide V2]; have := (Dm.col_lt (N := c1.natAbs) (by omega) h1).1; have := (Dm.col_lt (N := c2.natAbs) (by omega) h2).1; rw [Dm.p10_W (W := W) (by omega)]; omega))
        obtain ⟨r0', r1', r2', r3', f0', f1', f2', f3', hsz'⟩ := sum_cells hb3 hsz r0 r1 r2 r3 f0 f1 f2 f3
        have hR' := hide hR
        clear hR hv p0 q0
        go_wp2
        refine bodyPost_ret (v := .agg #[.bool true, .slice (some ⟨wc.heap.size, 0, none⟩) W W, .int .i64 low, .bool false]) (by simp [results, Try.results34, go_sem, r0', r1', r2', r3']) rfl ?_
        rw [unhide L3]
        exact ⟨true, wc.heap.size, W, W, R, rfl, Nat.le_refl _, hW9, ((((unhide hR').setCell (by simp; omega) _).setCell (by simp; omega) _).setCell (by simp; omega) _).setCell (by simp; omega) _, (Dm.sum_plus (Dm.addS_eq (unhide L3) (unhide E1) (unhide E2)) (by rw [unhide hv', unhide V1, unhide V2])).1 (by omega) (by omega), (((((below_drewN hbel nq).trans (hb3.mono (by simp; omega))).setCell (by simp; omega) _).setCell (by simp; omega) _).setCell (by simp; omega) _).setCell (by simp; omega) _⟩
      · have d2 : decide (c2 < 0) = false := by simp; omega
        go_wp2
        go_quiet (fail)
        by_cases hl : Dm.val (Dm.cl c1.natAbs W z1) W < Dm.val (Dm.cl c2.natAbs W z2) W
        · go_wp2_with fail
          refine (less_any _ _ _ _ _ _ W _ _ _ ((unhide HX).below (below_drewN (Below.refl _ _) nq)) ((unhide HY).below (below_drewN (Below.refl _ _) nq))).mono ?_
          rintro e w2 ⟨rfl, rfl⟩
          go_wp2_with fail
          refine (minus_any _ _ _ _ _ _ W _ _ _ ((unhide HY).below (below_drewN (Below.refl _ _) nq)) ((unhide HX).below (below_drewN (Below.refl _ _) nq))).mono ?_
          rintro e w3 ⟨R, rfl, hR, hv, hb3⟩
          have hv' := hide (hv (by omega))
          obtain ⟨r0', r1', r2', r3', f0', f1', f2', f3', hsz'⟩ := sum_cells hb3 hsz r0 r1 r2 r3 f0 f1 f2 f3
          have hR' := hide hR
          clear hR hv p0 q0
          go_wp2
          refine bodyPost_ret (v := .agg #[.bool false, .slice (some ⟨wc.heap.size, 0, none⟩) W W, .int .i64 low, .bool false]) (by simp [results, Try.results34, go_sem, r0', r1', r2', r3']) rfl ?_
          rw [unhide L3]
          exact ⟨false, wc.heap.size, W, W, R, rfl, Nat.le_refl _, hW9, ((((unhide hR').setCell (by simp; omega) _).setCell (by simp; omega) _).setCell (by simp; omega) _).setCell (by simp; omega) _, (Dm.sum_minus ((Dm.addS_eq (unhide L3) (unhide E1) (unhide E2)).trans (Int.add_comm _ _)) (by have := hl; rw [unhide V1, unhide V2] at this; omega) (by rw [unhide hv', unhide V1, unhide V2])).2 (by omega) (by omega), (((((below_drewN hbel nq).trans (hb3.mono (by simp; omega))).setCell (by simp; omega) _).setCell (by simp; omega) _).setCell (by simp; omega) _).setCell (by simp; omega) _⟩
        · go_wp2_with fail
          refine (less_any _ _ _ _ _ _ W _ _ _ ((unhide HX).below (below_drewN (Below.refl _ _) nq)) ((unhide HY).below (below_drewN (Below.refl _ _) nq))).mono ?_
          rintro e w2 ⟨rfl, rfl⟩
          go_wp2_with fail
          refine (minus_any _ _ _ _ _ _ W _ _ _ ((unhide HX).below (below_drewN (Below.refl _ _) nq)) ((unhide HY).below (below_drewN (Below.refl _ _) nq))).mono ?_
          rintro e w3 ⟨R, rfl, hR, hv, hb3⟩
          have hv' := hide (hv (by omega))
          obtain ⟨r0', r1', r2', r3', f0', f1', f2', f3', hsz'⟩ := sum_cells hb3 hsz r0 r1 r2 r3 f0 f1 f2 f3
          have hR' := hide hR
          clear hR hv p0 q0
          go_wp2
          refine bodyPost_ret (v := .agg #[.bool true, .slice (some ⟨wc.heap.size, 0, none⟩) W W, .int .i64 low, .bool false]) (by simp [results, Try.results34, go_sem, r0', r1', r2', r3']) rfl ?_
          rw [unhide L3]
          exact ⟨true, wc.heap.size, W, W, R, rfl, Nat.le_refl _, hW9, ((((unhide hR').setCell (by simp; omega) _).setCell (by simp; omega) _).setCell (by simp; omega) _).setCell (by simp; omega) _, (Dm.sum_minus (Dm.addS_eq (unhide L3) (unhide E1) (unhide E2)) (by have := hl; rw [unhide V1, unhide V2] at this; omega) (by rw [unhide hv', unhide V1, unhide V2])).1 (by omega) (by omega), (((((below_drewN hbel nq).trans (hb3.mono (by simp; omega))).setCell (by simp; omega) _).setCell (by simp; omega) _).setCell (by simp; omega) _).setCell (by simp; omega) _⟩
    · by_cases s2 : c2 < 0
      · have d1 : decide (c1 < 0) = false := by simp; omega
        go_wp2
        go_quiet (fail)
        by_cases hl : Dm.val (Dm.cl c1.natAbs W z1) W < Dm.val (Dm.cl c2.natAbs W z2) W
        · go_wp2_with fail
          refine (less_any _ _ _ _ _ _ W _ _ _ ((unhide HX).below (below_drewN (Below.refl _ _) nq)) ((unhide HY).below (below_drewN (Below.refl _ _) nq))).mono ?_
          rintro e w2 ⟨rfl, rfl⟩
          go_wp2_with fail
          refine (minus_any _ _ _ _ _ _ W _ _ _ ((unhide HY).below (below_drewN (Below.refl _ _) nq)) ((unhide HX).below (below_drewN (Below.refl _ _) nq))).mono ?_
          rintro e w3 ⟨R, rfl, hR, hv, hb3⟩
          have hv' := hide (hv (by omega))
          obtain ⟨r0', r1', r2', r3', f0', f1', f2', f3', hsz'⟩ := sum_cells hb3 hsz r0 r1 r2 r3 f0 f1 f2 f3
          have hR' := hide hR
          clear hR hv p0 q0
          go_wp2
          refine bodyPost_ret (v := .agg #[.bool true, .slice (some ⟨wc.heap.size, 0, none⟩) W W, .int .i64 low, .bool false]) (by simp [results, Try.results34, go_sem, r0', r1', r2', r3']) rfl ?_
          rw [unhide L3]
          exact ⟨true, wc.heap.size, W, W, R, rfl, Nat.le_refl _, hW9, ((((unhide hR').setCell (by simp; omega) _).setCell (by simp; omega) _).setCell (by simp; omega) _).setCell (by simp; omega) _, (Dm.sum_minus ((Dm.addS_eq (unhide L3) (unhide E1) (unhide E2)).trans (Int.add_comm _ _)) (by have := hl; rw [unhide V1, unhide V2] at this; omega) (by rw [unhide hv', unhide V1, unhide V2])).1 (by omega) (by omega), (((((below_drewN hbel nq).trans (hb3.mono (by simp; omega))).setCell (by simp; omega) _).setCell (by simp; omega) _).setCell (by simp; omega) _).setCell (by simp; omega) _⟩
        · go_wp2_with fail
          refine (less_any _ _ _ _ _ _ W _ _ _ ((unhide HX).below (below_drewN (Below.refl _ _) nq)) ((unhide HY).below (below_drewN (Below.refl _ _) nq))).mono ?_
          rintro e w2 ⟨rfl, rfl⟩
          go_wp2_with fail
          refine (minus_any _ _ _ _ _ _ W _ _ _ ((unhide HX).below (below_drewN (Below.refl _ _) nq)) ((unhide HY).below (below_drewN (Below.refl _ _) nq))).mono ?_
          rintro e w3 ⟨R, rfl, hR, hv, hb3⟩
          have hv' := hide (hv (by omega))
          obtain ⟨r0', r1', r2', r3', f0', f1', f2', f3', hsz'⟩ := sum_cells hb3 hsz r0 r1 r2 r3 f0 f1 f2 f3
          have hR' := hide hR
          clear hR hv p0 q0
          go_wp2
          refine bodyPost_ret (v := .agg #[.bool false, .slice (some ⟨wc.heap.size, 0, none⟩) W W, .int .i64 low, .bool false]) (by simp [results, Try.results34, go_sem, r0', r1', r2', r3']) rfl ?_
          rw [unhide L3]
          exact ⟨false, wc.heap.size, W, W, R, rfl, Nat.le_refl _, hW9, ((((unhide hR').setCell (by simp; omega) _).setCell (by simp; omega) _).setCell (by simp; omega) _).setCell (by simp; omega) _, (Dm.sum_minus (Dm.addS_eq (unhide L3) (unhide E1) (unhide E2)) (by have := hl; rw [unhide V1, unhide V2] at this; omega) (by rw [unhide hv', unhide V1, unhide V2])).2 (by omega) (by omega), (((((below_drewN hbel nq).trans (hb3.mono (by simp; omega))).setCell (by simp; omega) _).setCell (by simp; omega) _).setCell (by simp; omega) _).setCell (by simp; omega) _⟩
      · have d1 : decide (c1 < 0) = false := by simp; omega
        have d2 : decide (c2 < 0) = false := by simp; omega
        go_wp2
        go_quiet (fail)
        go_wp2_with fail
        refine (plus_any _ _ _ _ _ _ W _ _ _ ((unhide HX).below (below_drewN (Below.refl _ _) nq)) ((unhide HY).below (below_drewN (Below.refl _ _) nq))).mono ?_
        rintro e w3 ⟨R, rfl, hR, hv, hb3⟩
        have hv' := hide (hv (by rw [unhide V1, unhide V2]; have := (Dm.col_lt (N := c1.natAbs) (by omega) h1).1; have := (Dm.col_lt (N := c2.natAbs) (by omega) h2).1; rw [Dm.p10_W (W := W) (by omega)]; omega))
        obtain ⟨r0', r1', r2', r3', f0', f1', f2', f3', hsz'⟩ := sum_cells hb3 hsz r0 r1 r2 r3 f0 f1 f2 f3
        have hR' := hide hR
        clear hR hv p0 q0
        go_wp2
        refine bodyPost_ret (v := .agg #[.bool false, .slice (some ⟨wc.heap.size, 0, none⟩) W W, .int .i64 low, .bool false]) (by simp [results, Try.results34, go_sem, r0', r1', r2', r3']) rfl ?_
        rw [unhide L3]
        exact ⟨false, wc.heap.size, W, W, R, rfl, Nat.le_refl _, hW9, ((((unhide hR').setCell (by simp; omega) _).setCell (by simp; omega) _).setCell (by simp; omega) _).setCell (by simp; omega) _, (Dm.sum_plus (Dm.addS_eq (unhide L3) (unhide E1) (unhide E2)) (by rw [unhide hv', unhide V1, unhide V2])).2 (by omega) (by omega), (((((below_drewN hbel nq).trans (hb3.mono (by simp; omega))).setCell (by simp; omega) _).setCell (by simp; omega) _).setCell (by simp; omega) _).setCell (by simp; omega) _⟩
end Go.Proofs.Ytibkemolmpcdcaa

/- Walks: trimmed, number. -/
namespace Go.Proofs.Ytibkemolmpcdcaa
open Go.RowKit

theorem ret_near {a b c a' b' c' : Int} (h1 : a = a') (h2 : b = b') (h3 : c = c') :
    Ending.returned (.tuple #[.agg #[.int .i64 a, .int .i64 b], .int .i64 c]) = .returned (.tuple #[.agg #[.int .i64 a', .int .i64 b'], .int .i64 c']) := by rw [h1, h2, h3]

set_option maxHeartbeats 400000 in
theorem trimmed_zero (x : Int) (w : World) :
    Calls Try.prog 51 #[.int .i64 0, .int .i64 x] w fun e w' => e = .returned (.tuple #[.agg #[.int .i64 0, .int .i64 0], .int .i64 0]) ∧ Below w.heap.size w w' := by
  go_enter Try.func51, Try.ntmps51
  go_wp2
  exact bodyPost_ret (v := .tuple #[.agg #[.int .i64 0, .int .i64 0], .int .i64 0]) (by simp [results, Try.results51, go_sem]) rfl ⟨rfl, (Below.refl _ _).alloc (Nat.le_refl _) _⟩

set_option maxHeartbeats 400000 in
theorem trimmed_some (c x : Int) (w : World) (h0 : (c == 0) = false) (h1 : -1000000000000000000 ≤ c) (h2 : c ≤ 1000000000000000000) (hx1 : -200 ≤ x) (hx2 : x ≤ 200) :
    Calls Try.prog 51 #[.int .i64 c, .int .i64 x] w fun e w' => ∃ (m : Int) (k : Nat), c = Dm.tens m k ∧ m.tmod 10 ≠ 0 ∧ ((40 < x + k ∧ e = .returned (.tuple #[.agg #[.int .i64 0, .int .i64 0], .int .i64 4])) ∨ (x + k ≤ 40 ∧ e = .returned (.tuple #[.agg #[.int .i64 m, .int .i64 (x + k)], .int .i64 0]))) ∧ Below w.heap.size w w' := by
  go_enter Try.func51, Try.ntmps51
  go_wp2
  go_loop [0, 1] (fun a b => ∃ (m : Int) (k : Nat), a = .int .i64 m ∧ b = .int .i64 (x + k) ∧ Hid (c = Dm.tens m k) ∧ Hid (m ≠ 0) ∧ -1000000000000000000 ≤ m ∧ m ≤ 1000000000000000000 ∧ k ≤ 18) (fun a _ => (intOf a).natAbs)
  case atStart => exact ⟨c, 0, rfl, by simp, hide rfl, hide (by simpa using h0), h1, h2, by omega⟩
  case round =>
    obtain ⟨m, k, rfl, rfl, H, hm0, hm1, hm2, hk⟩ := hrel
    by_cases hm : m.tmod 10 = 0
    · have hm' : (m.tmod 10 == 0) = true := by simp [hm]
      have T := hide (Dm.td10 m)
      have Hm := hide hm
      obtain ⟨q1, q2, q3, q4, q5⟩ := Dm.tdiv_facts (unhide hm0) hm
      have hq1 := hide q1
      have hk' := Dm.tens_k (unhide H) hm (unhide hm0) h1 h2
      clear hm q1
      go_wp2
      go_round
      case rel => exact ⟨_, k + 1, rfl, by go_num, hide (Dm.tens_step (unhide H) (unhide hq1)), hide q2, by omega, by omega, by omega⟩
      case measure => exact q3
    · have hm' : (m.tmod 10 == 0) = false := by simp [hm]
      have Hm := hide hm
      clear hm
      by_cases hg : 40 < x + (k : Int)
      · go_wp2
        exact bodyPost_ret (v := .tuple #[.agg #[.int .i64 0, .int .i64 0], .int .i64 4]) (by simp [results, Try.results51, go_sem]) rfl ⟨m, k, unhide H, unhide Hm, .inl ⟨hg, rfl⟩, (Below.refl _ _).alloc (Nat.le_refl _) _⟩
      · go_wp2
        exact bodyPost_ret (v := .tuple #[.agg #[.int .i64 m, .int .i64 (x + k)], .int .i64 0]) (by simp [results, Try.results51, go_sem]) rfl ⟨m, k, unhide H, unhide Hm, .inr ⟨by omega, rfl⟩, (Below.refl _ _).alloc (Nat.le_refl _) _⟩

theorem trimmed_any (c x : Int) (w : World) (h1 : -1000000000000000000 ≤ c) (h2 : c ≤ 1000000000000000000) (hx1 : -200 ≤ x) (hx2 : x ≤ 200) :
    Calls Try.prog 51 #[.int .i64 c, .int .i64 x] w fun e w' => e = .returned (.tuple #[.agg #[.int .i64 (Dm.fC c x), .int .i64 (Dm.fE c x)], .int .i64 (Dm.fR c x)]) ∧ Below w.heap.size w w' := by
  by_cases h0 : c = 0
  · subst h0
    exact (trimmed_zero x w).mono fun e w' h => h
  · refine (trimmed_some c x w (by simp [h0]) h1 h2 hx1 hx2).mono ?_
    rintro e w' ⟨m, k, hc, hm, he, hb⟩
    obtain ⟨t1, t2⟩ := Dm.tz_at hc hm (by omega)
    refine ⟨?_, hb⟩
    rcases he with ⟨g, rfl⟩ | ⟨g, rfl⟩
    · refine ret_near ?_ ?_ ?_ <;> simp only [Dm.fC, Dm.fE, Dm.fR, if_neg h0, t1, if_pos g]
    · have g' : ¬ 40 < x + (k : Int) := by omega
      refine ret_near ?_ ?_ ?_ <;> simp only [Dm.fC, Dm.fE, Dm.fR, if_neg h0, t1, t2, if_neg g']

set_option maxHeartbeats 400000 in
theorem number_any (B R : Bool) (sv : Value) (x : Int) (hsv : ∃ ao n c, sv = .slice ao n c) (q : Nat) (y : Int) (w : World) (hq : (q : Int) ≤ 1000000000000000000) (hx1 : -200 ≤ y) (hx2 : y ≤ 200) :
    Calls Try.prog 45 #[.agg #[.bool B, sv, .int .i64 x, .bool R], .int .u64 (q : Int), .int .i64 y] w fun e w' => e = .returned (.tuple #[.agg #[.int .i64 (Dm.fC (Dm.sg B q) y), .int .i64 (Dm.fE (Dm.sg B q) y)], .int .i64 (Dm.fR (Dm.sg B q) y)]) ∧ Below w.heap.size w w' := by
  obtain ⟨ao, n, cp, rfl⟩ := hsv
  cases B
  · go_enter Try.func45, Try.ntmps45
    go_wp2_with fail
    refine (trimmed_any (q : Int) y _ (by omega) (by omega) hx1 hx2).mono ?_
    rintro e w1 ⟨rfl, hb⟩
    obtain ⟨hc, hf⟩ := bcell hb
    have hz : w.heap.size + 2 ≤ w1.heap.size := by have := hb.size; simp at this; omega
    have hb0 : Below w.heap.size w w1 := (((Below.refl _ _).alloc (Nat.le_refl _) _).alloc (by simp) _).trans (hb.mono (by simp; omega))
    go_wp2
    exact bodyPost_ret (v := .tuple #[.agg #[.int .i64 (Dm.fC (q : Int) y), .int .i64 (Dm.fE (q : Int) y)], .int .i64 (Dm.fR (q : Int) y)]) (by simp [results, Try.results45, go_sem, hc]) rfl ⟨rfl, (hb0.setCell (by simp) _).setCell (by simp) _⟩
  · go_enter Try.func45, Try.ntmps45
    go_wp2_with fail
    refine (trimmed_any (-(q : Int)) y _ (by omega) (by omega) hx1 hx2).mono ?_
    rintro e w1 ⟨rfl, hb⟩
    obtain ⟨hc, hf⟩ := bcell hb
    have hz : w.heap.size + 2 ≤ w1.heap.size := by have := hb.size; simp at this; omega
    have hb0 : Below w.heap.size w w1 := (((Below.refl _ _).alloc (Nat.le_refl _) _).alloc (by simp) _).trans (hb.mono (by simp; omega))
    go_wp2
    exact bodyPost_ret (v := .tuple #[.agg #[.int .i64 (Dm.fC (-(q : Int)) y), .int .i64 (Dm.fE (-(q : Int)) y)], .int .i64 (Dm.fR (-(q : Int)) y)]) (by simp [results, Try.results45, go_sem, hc]) rfl ⟨rfl, (hb0.setCell (by simp) _).setCell (by simp) _⟩

end Go.Proofs.Ytibkemolmpcdcaa

/- Walks: noughtsAhead, goesUp, wholeAt. -/
namespace Go.Proofs.Ytibkemolmpcdcaa
open Go.RowKit

set_option maxHeartbeats 400000 in
theorem noughts_any (b off n cap : Nat) (D : Nat → Nat) (w : World) (h : DS w b off n D) :
    Calls Try.prog 66 #[.slice (some ⟨b, off, none⟩) n cap] w fun e w' => ∃ z : Nat, e = .returned (.int .i64 (z : Int)) ∧ z ≤ n ∧ (∀ j, j < z → D j = 0) ∧ (z < n → D z ≠ 0) ∧ w' = w := by
  have hl := h.len
  go_enter Try.func66, Try.ntmps66
  go_wp2
  go_loop [3] (fun i => ∃ k : Nat, k ≤ n ∧ i = .int .i64 (k : Int) ∧ Hid (∀ j, j < k → D j = 0)) (fun i => n - (intOf i).toNat)
  case atStart => exact ⟨0, Nat.zero_le _, rfl, hide (fun j hj => absurd hj (by omega))⟩
  case round =>
    obtain ⟨k, hk, rfl, H⟩ := hrel
    by_cases hlt : k < n
    · have hcell := h.cell k hlt
      by_cases hd : D k = 0
      · have hd' : ((D k : Int) == 0) = true := by simp [hd]
        have Hd := hide hd
        clear hd
        go_wp2
        go_round
        case rel => exact ⟨k + 1, by omega, by go_num, hide (fun j hj => by rcases Nat.lt_or_ge j k with g | g; · exact unhide H j g
                                                                            · rw [show j = k by omega]; exact unhide Hd)⟩
        case measure => simp [intOf]; omega
      · have hd' : ((D k : Int) == 0) = false := by simp [hd]
        have Hd := hide hd
        clear hd
        go_wp2
        go_ret
        exact ⟨k, rfl, hk, unhide H, fun _ => unhide Hd, rfl⟩
    · go_wp2
      go_ret
      exact ⟨k, rfl, hk, unhide H, fun g => absurd g hlt, rfl⟩

theorem ret_bool {a b : Bool} (h : a = b) : Ending.returned (.bool a) = .returned (.bool b) := by rw [h]

set_option maxHeartbeats 400000 in
theorem goesUp_out (B R odd : Bool) (b off n cap : Nat) (x kept : Int) (w : World) (h : kept < 0 ∨ (n : Int) ≤ kept) :
    Calls Try.prog 78 #[.agg #[.bool B, .slice (some ⟨b, off, none⟩) n cap, .int .i64 x, .bool R], .int .i64 kept, .bool odd] w fun e w' => e = .returned (.bool false) ∧ Below w.heap.size w w' := by
  by_cases h0 : kept < 0
  · clear h
    go_enter Try.func78, Try.ntmps78
    go_wp2
    go_ret
    exact ⟨rfl, (Below.refl _ _).alloc (Nat.le_refl _) _⟩
  · have h1 : (n : Int) ≤ kept := by omega
    clear h
    go_enter Try.func78, Try.ntmps78
    go_wp2
    go_ret
    exact ⟨rfl, (Below.refl _ _).alloc (Nat.le_refl _) _⟩

set_option maxHeartbeats 400000 in
theorem goesUp_in (B R odd : Bool) (b off n cap : Nat) (x : Int) (k : Nat) (D : Nat → Nat) (w : World) (hD : DS w b off n D) (hk : k < n) (h5 : ((D k : Int) != 5) = true) :
    Calls Try.prog 78 #[.agg #[.bool B, .slice (some ⟨b, off, none⟩) n cap, .int .i64 x, .bool R], .int .i64 (k : Int), .bool odd] w fun e w' => e = .returned (.bool (decide (5 < (D k : Int)))) ∧ Below w.heap.size w w' := by
  have hl := hD.len
  have hblk := hD.blk
  have hcell := hD.cell k hk
  have hc2 : (w.alloc (.cells #[.bool B, .slice (some ⟨b, off, none⟩) n cap, .int .i64 x, .bool R] 56)).cell? ⟨b, off + k, none⟩ = some (.int .u8 (D k : Int)) := by
    rw [← hcell]; exact ((Below.refl w.heap.size w).alloc (Nat.le_refl _) _).cell (p := ⟨b, off + k, none⟩) hblk
  go_enter Try.func78, Try.ntmps78
  go_wp2
  go_ret
  exact ⟨rfl, (Below.refl _ _).alloc (Nat.le_refl _) _⟩

set_option maxHeartbeats 400000 in
theorem goesUp_5 (B R odd : Bool) (b off n cap : Nat) (x : Int) (k : Nat) (D : Nat → Nat) (w : World) (hD : DS w b off n D) (hcap : n ≤ cap) (hk : k < n) (h5 : ((D k : Int) != 5) = false) :
    Calls Try.prog 78 #[.agg #[.bool B, .slice (some ⟨b, off, none⟩) n cap, .int .i64 x, .bool R], .int .i64 (k : Int), .bool odd] w fun e w' => e = .returned (.bool (odd || R || decide (0 < Dm.suf D n (n - k - 1)))) ∧ Below w.heap.size w w' := by
  have hl := hD.len
  have hblk := hD.blk
  have hcell := hD.cell k hk
  have hbw := (Below.refl w.heap.size w).alloc (Nat.le_refl _) (.cells #[.bool B, .slice (some ⟨b, off, none⟩) n cap, .int .i64 x, .bool R] 56)
  have hc2 : (w.alloc (.cells #[.bool B, .slice (some ⟨b, off, none⟩) n cap, .int .i64 x, .bool R] 56)).cell? ⟨b, off + k, none⟩ = some (.int .u8 (D k : Int)) := by
    rw [← hcell]; exact hbw.cell (p := ⟨b, off + k, none⟩) hblk
  have hD2 := hide (hD.below hbw)
  clear hbw
  have E0 := fun (z : Nat) a b c => hide (Dm.suf_z D hk (z := z) a b c)
  cases odd
  · cases R
    · by_cases hcp : cap = k + 1
      · subst hcp
        go_enter Try.func78, Try.ntmps78
        go_wp2_with fail
        refine (noughts_any b off 0 0 (fun j => D (k + 1 + j)) _ ((unhide hD2).empty off (fun j => hD.dig _) rfl)).mono ?_
        rintro e w1 ⟨z, rfl, hz, hz0, hz1, rfl⟩
        have E1 := E0 z (by omega) hz0 (fun g => absurd g (by omega))
        clear hz0 hz1 E0
        go_wp2
        go_ret
        refine ⟨ret_bool ?_, (Below.refl _ _).alloc (Nat.le_refl _) _⟩
        rw [unhide E1]; simp; try omega
      · go_enter Try.func78, Try.ntmps78
        go_wp2_with fail
        refine (noughts_any b (off + (k + 1)) (n - (k + 1)) _ (fun j => D (k + 1 + j)) _ ((unhide hD2).drop (k + 1) (by omega))).mono ?_
        rintro e w1 ⟨z, rfl, hz, hz0, hz1, rfl⟩
        have E1 := E0 z hz hz0 hz1
        clear hz0 hz1 E0
        go_wp2
        go_ret
        refine ⟨ret_bool ?_, (Below.refl _ _).alloc (Nat.le_refl _) _⟩
        rw [unhide E1]; simp; try omega
    · go_enter Try.func78, Try.ntmps78
      go_wp2
      all_goals
        go_ret
        exact ⟨rfl, (Below.refl _ _).alloc (Nat.le_refl _) _⟩
  · go_enter Try.func78, Try.ntmps78
    go_wp2
    all_goals
      go_ret
      exact ⟨rfl, (Below.refl _ _).alloc (Nat.le_refl _) _⟩

theorem goesUp_any (B R odd : Bool) (b off n cap : Nat) (x kept : Int) (D : Nat → Nat) (w : World) (hD : DS w b off n D) (hcap : n ≤ cap) :
    Calls Try.prog 78 #[.agg #[.bool B, .slice (some ⟨b, off, none⟩) n cap, .int .i64 x, .bool R], .int .i64 kept, .bool odd] w fun e w' => e = .returned (.bool (Dm.gu D n kept odd R)) ∧ Below w.heap.size w w' := by
  by_cases h : kept < 0 ∨ (n : Int) ≤ kept
  · rw [Dm.gu_out odd R h]
    exact goesUp_out B R odd b off n cap x kept w h
  · obtain ⟨k, rfl⟩ : ∃ k : Nat, kept = (k : Int) := ⟨kept.toNat, by omega⟩
    by_cases h5 : D k = 5
    · rw [Dm.gu_5 odd R (by omega) h5]
      exact goesUp_5 B R odd b off n cap x k D w hD hcap (by omega) (by simp [h5])
    · rw [Dm.gu_in odd R (by omega) h5]
      refine (goesUp_in B R odd b off n cap x k D w hD (by omega) (by simp; omega)).mono ?_
      rintro e w' ⟨rfl, hb⟩
      exact ⟨ret_bool (by simp; omega), hb⟩

end Go.Proofs.Ytibkemolmpcdcaa

/- Walks: wholeAt. -/
namespace Go.Proofs.Ytibkemolmpcdcaa
open Go.RowKit

set_option maxHeartbeats 1000000 in
theorem wholeAt_any (B R : Bool) (b off n cap : Nat) (x y : Int) (D : Nat → Nat) (w : World) (hD : DS w b off n D) (hcap : n ≤ cap) (hx1 : -1000 ≤ x) (hx2 : x ≤ 1000) (hy1 : -1000 ≤ y) (hy2 : y ≤ 1000) (hk18 : (n : Int) + x - y ≤ 18) :
    Calls Try.prog 46 #[.agg #[.bool B, .slice (some ⟨b, off, none⟩) n cap, .int .i64 x, .bool R], .int .i64 y] w fun e w' => e = .returned (.int .u64 (Dm.sc (Dm.val D n) (x - y) R : Int)) ∧ Below w.heap.size w w' := by
  have hl := hD.len
  have hblk := hD.blk
  have hbw := (Below.refl w.heap.size w).alloc (Nat.le_refl _) (.cells #[.bool B, .slice (some ⟨b, off, none⟩) n cap, .int .i64 x, .bool R] 56)
  have hD2 := hide (hD.below hbw)
  have hbw' := hide hbw
  have hdig := hide hD.dig
  have W := hide (Dm.whole_eq hD.dig n x y R)
  clear hbw hD
  go_enter Try.func46, Try.ntmps46
  go_wp2
  go_loop [6, 17] (fun a c => ∃ (q k : Nat), a = .int .u64 (q : Int) ∧ c = .int .i64 (k : Int) ∧ Hid (q = Dm.vx D n k) ∧ k ≤ ((n : Int) + x - y).toNat) (fun _ c => ((n : Int) + x - y).toNat - (intOf c).toNat)
  case atStart => exact ⟨0, 0, rfl, rfl, hide (Dm.vx_zero D n).symm, Nat.zero_le _⟩
  case round =>
    obtain ⟨q, k, rfl, rfl, H, hk⟩ := hrel
    by_cases hlt : (k : Int) < (n : Int) + x - y
    · have hq : q < 100000000000000000 := by
        have a := Dm.vx_lt (unhide hdig) n k
        have c := Dm.p10_17 (k := k) (by omega)
        rw [unhide H]; omega
      have hd := unhide hdig k
      by_cases hin : k < n
      · have hcell := (unhide hD2).cell k hin
        have H2 := hide (Dm.vx_in (D := D) hin)
        go_wp2
        go_round
        case rel => exact ⟨q * 10 + D k, k + 1, by go_num, by go_num, hide (by rw [unhide H2, unhide H]), by omega⟩
        case measure => simp [intOf]; omega
      · have H2 := hide (Dm.vx_out (D := D) (n := n) (k := k) (by omega))
        go_wp2
        go_round
        case rel => exact ⟨q * 10, k + 1, by go_num, by go_num, hide (by rw [unhide H2, unhide H]), by omega⟩
        case measure => simp [intOf]; omega
    · have hq : q ≤ 1000000000000000000 := by
        have a := Dm.vx_lt (unhide hdig) n k
        have c := Dm.p10_18 (k := k) (by omega)
        rw [unhide H]; omega
      have ek : ((n : Int) + x - y).toNat = k := by omega
      have H3 : Hid (q + Dm.one (Dm.gu D n ((n : Int) + x - y) (decide (q % 2 = 1)) R) = Dm.sc (Dm.val D n) (x - y) R) := by
        have w9 := unhide W
        rw [ek, ← unhide H] at w9
        exact w9
      clear W hk ek H
      by_cases hodd : q % 2 = 1
      · have ho : ((q : Int) % 2 == 1) = true := by simp; omega
        have H4 : Hid (q + Dm.one (Dm.gu D n ((n : Int) + x - y) true R) = Dm.sc (Dm.val D n) (x - y) R) := by
          have := unhide H3; rw [decide_eq_true hodd] at this; exact this
        clear hodd H3
        go_wp2_with fail
        refine (goesUp_any B R true b off n cap x _ D _ (unhide hD2) hcap).mono ?_
        rintro e w1 ⟨rfl, hb⟩
        have hb0 : Below w.heap.size w w1 := (unhide hbw').trans (hb.mono (by simp))
        cases hg : Dm.gu D n ((n : Int) + x - y) true R
        all_goals
          have H5 := hide (unhide H4)
          rw [hg] at H5
          clear hg H4
          go_wp2
          go_ret
          exact ⟨ret_int (by rw [← unhide H5]; simp [Dm.one]), hb0⟩
      · have ho : ((q : Int) % 2 == 1) = false := by simp; omega
        have H4 : Hid (q + Dm.one (Dm.gu D n ((n : Int) + x - y) false R) = Dm.sc (Dm.val D n) (x - y) R) := by
          have := unhide H3; rw [decide_eq_false hodd] at this; exact this
        clear hodd H3
        go_wp2_with fail
        refine (goesUp_any B R false b off n cap x _ D _ (unhide hD2) hcap).mono ?_
        rintro e w1 ⟨rfl, hb⟩
        have hb0 : Below w.heap.size w w1 := (unhide hbw').trans (hb.mono (by simp))
        cases hg : Dm.gu D n ((n : Int) + x - y) false R
        all_goals
          have H5 := hide (unhide H4)
          rw [hg] at H5
          clear hg H4
          go_wp2
          go_ret
          exact ⟨ret_int (by rw [← unhide H5]; simp [Dm.one]), hb0⟩
end Go.Proofs.Ytibkemolmpcdcaa

/- Walks: nearest. -/
namespace Go.Proofs.Ytibkemolmpcdcaa
open Go.RowKit

/-- behind nearest's first statement: the noughts ahead are cut off -/
def NearRel (B R : Bool) (b n cap : Nat) (x : Int) (D : Nat → Nat) (w wc : World) : Prop :=
  ∃ z off' : Nat, Hid (z ≤ n ∧ (∀ j, j < z → D j = 0) ∧ (z < n → D z ≠ 0) ∧ DS wc b off' (n - z) (fun j => D (z + j))) ∧ wc.cell? ⟨w.heap.size, 0, none⟩ = some (.bool B) ∧ wc.cell? ⟨w.heap.size, 1, none⟩ = some (.slice (some ⟨b, off', none⟩) (n - z) (cap - z)) ∧ wc.cell? ⟨w.heap.size, 2, none⟩ = some (.int .i64 x) ∧ wc.cell? ⟨w.heap.size, 3, none⟩ = some (.bool R) ∧ wc.cell? ⟨w.heap.size + 1, 0, none⟩ = some (.int .i64 0) ∧ wc.cell? ⟨w.heap.size + 1, 1, none⟩ = some (.int .i64 0) ∧ wc.frozen? ⟨w.heap.size + 1, 0, none⟩ = false ∧ wc.frozen? ⟨w.heap.size + 1, 1, none⟩ = false ∧ w.heap.size + 2 ≤ wc.heap.size ∧ Below w.heap.size w wc

theorem near_rel {B R : Bool} {b off n cap : Nat} {x : Int} {D : Nat → Nat} {w : World} (hD : DS w b off n D) {z : Nat} (hz : z ≤ n) (hcap : n ≤ cap) (hz0 : ∀ j, j < z → D j = 0) (hz1 : z < n → D z ≠ 0) {ao : Option Addr} (hao : (if cap = z then some ({ block := b, off := off } : Addr) else some { block := b, off := off + z }) = ao) :
    NearRel B R b n cap x D w ((w.alloc (Obj.cells #[Value.bool B, Value.slice ao (n - z) (cap - z), Value.int IntKind.i64 x, Value.bool R] 56)).alloc (Obj.cells #[Value.int IntKind.i64 0, Value.int IntKind.i64 0] 23)).drew := by
  have hb : Below w.heap.size w ((w.alloc (Obj.cells #[Value.bool B, Value.slice ao (n - z) (cap - z), Value.int IntKind.i64 x, Value.bool R] 56)).alloc (Obj.cells #[Value.int IntKind.i64 0, Value.int IntKind.i64 0] 23)).drew :=
    (((Below.refl w.heap.size w).alloc (Nat.le_refl _) _).alloc (by simp) _).drew
  by_cases h : cap = z
  · rw [if_pos h] at hao
    subst hao
    refine ⟨z, off, hide ⟨hz, hz0, hz1, (hD.below hb).empty off (fun j => hD.dig _) (by omega)⟩, by simp [go_sem], by simp [go_sem], by simp [go_sem], by simp [go_sem], by simp [go_sem], by simp [go_sem], by simp [go_sem], by simp [go_sem], by simp, hb⟩
  · rw [if_neg h] at hao
    subst hao
    refine ⟨z, off + z, hide ⟨hz, hz0, hz1, (hD.below hb).drop z hz⟩, by simp [go_sem], by simp [go_sem], by simp [go_sem], by simp [go_sem], by simp [go_sem], by simp [go_sem], by simp [go_sem], by simp [go_sem], by simp, hb⟩

theorem cells_below {wc w1 : World} {h : Nat} {v0 v1 v2 v3 r0 r1 : Value} (hb : Below wc.drew.heap.size wc.drew w1) (hsz : h + 2 ≤ wc.heap.size)
    (c0 : wc.cell? ⟨h, 0, none⟩ = some v0) (c1 : wc.cell? ⟨h, 1, none⟩ = some v1) (c2 : wc.cell? ⟨h, 2, none⟩ = some v2) (c3 : wc.cell? ⟨h, 3, none⟩ = some v3)
    (d0 : wc.cell? ⟨h + 1, 0, none⟩ = some r0) (d1 : wc.cell? ⟨h + 1, 1, none⟩ = some r1) (f0 : wc.frozen? ⟨h + 1, 0, none⟩ = false) (f1 : wc.frozen? ⟨h + 1, 1, none⟩ = false) :
    w1.cell? ⟨h, 0, none⟩ = some v0 ∧ w1.cell? ⟨h, 1, none⟩ = some v1 ∧ w1.cell? ⟨h, 2, none⟩ = some v2 ∧ w1.cell? ⟨h, 3, none⟩ = some v3 ∧
    w1.cell? ⟨h + 1, 0, none⟩ = some r0 ∧ w1.cell? ⟨h + 1, 1, none⟩ = some r1 ∧ w1.frozen? ⟨h + 1, 0, none⟩ = false ∧ w1.frozen? ⟨h + 1, 1, none⟩ = false ∧ h + 2 ≤ w1.heap.size := by
  have e : wc.drew.heap.size = wc.heap.size := rfl
  refine ⟨(hb.cell (p := ⟨h, 0, none⟩) (by show h < _; omega)).trans c0, (hb.cell (p := ⟨h, 1, none⟩) (by show h < _; omega)).trans c1, (hb.cell (p := ⟨h, 2, none⟩) (by show h < _; omega)).trans c2, (hb.cell (p := ⟨h, 3, none⟩) (by show h < _; omega)).trans c3,
    (hb.cell (p := ⟨h + 1, 0, none⟩) (by show h + 1 < _; omega)).trans d0, (hb.cell (p := ⟨h + 1, 1, none⟩) (by show h + 1 < _; omega)).trans d1, (hb.frozen (p := ⟨h + 1, 0, none⟩) (by show h + 1 < _; omega)).trans f0, (hb.frozen (p := ⟨h + 1, 1, none⟩) (by show h + 1 < _; omega)).trans f1, by have := hb.size; omega⟩

theorem cells_below0 {wc w1 : World} {h : Nat} {v0 v1 v2 v3 r0 r1 : Value} (hb : Below wc.heap.size wc w1) (hsz : h + 2 ≤ wc.heap.size)
    (c0 : wc.cell? ⟨h, 0, none⟩ = some v0) (c1 : wc.cell? ⟨h, 1, none⟩ = some v1) (c2 : wc.cell? ⟨h, 2, none⟩ = some v2) (c3 : wc.cell? ⟨h, 3, none⟩ = some v3)
    (d0 : wc.cell? ⟨h + 1, 0, none⟩ = some r0) (d1 : wc.cell? ⟨h + 1, 1, none⟩ = some r1) (f0 : wc.frozen? ⟨h + 1, 0, none⟩ = false) (f1 : wc.frozen? ⟨h + 1, 1, none⟩ = false) :
    w1.cell? ⟨h, 0, none⟩ = some v0 ∧ w1.cell? ⟨h, 1, none⟩ = some v1 ∧ w1.cell? ⟨h, 2, none⟩ = some v2 ∧ w1.cell? ⟨h, 3, none⟩ = some v3 ∧
    w1.cell? ⟨h + 1, 0, none⟩ = some r0 ∧ w1.cell? ⟨h + 1, 1, none⟩ = some r1 ∧ w1.frozen? ⟨h + 1, 0, none⟩ = false ∧ w1.frozen? ⟨h + 1, 1, none⟩ = false ∧ h + 2 ≤ w1.heap.size := by
  refine ⟨(hb.cell (p := ⟨h, 0, none⟩) (by show h < _; omega)).trans c0, (hb.cell (p := ⟨h, 1, none⟩) (by show h < _; omega)).trans c1, (hb.cell (p := ⟨h, 2, none⟩) (by show h < _; omega)).trans c2, (hb.cell (p := ⟨h, 3, none⟩) (by show h < _; omega)).trans c3,
    (hb.cell (p := ⟨h + 1, 0, none⟩) (by show h + 1 < _; omega)).trans d0, (hb.cell (p := ⟨h + 1, 1, none⟩) (by show h + 1 < _; omega)).trans d1, (hb.frozen (p := ⟨h + 1, 0, none⟩) (by show h + 1 < _; omega)).trans f0, (hb.frozen (p := ⟨h + 1, 1, none⟩) (by show h + 1 < _; omega)).trans f1, by have := hb.size; omega⟩

set_option maxHeartbeats 1000000 in
theorem dnearest_any (B R : Bool) (b off n cap : Nat) (x : Int) (D : Nat → Nat) (w : World) (hD : DS w b off n D) (hcap : n ≤ cap) (hn : n ≤ 100) (hx1 : -200 ≤ x) (hx2 : x ≤ 100) :
    Calls Try.prog 35 #[.agg #[.bool B, .slice (some ⟨b, off, none⟩) n cap, .int .i64 x, .bool R]] w fun e w' => e = .returned (.tuple #[.agg #[.int .i64 (Dm.fC (Dm.sg B (Dm.nQ (Dm.val D n) x R)) (Dm.nE (Dm.val D n) x)), .int .i64 (Dm.fE (Dm.sg B (Dm.nQ (Dm.val D n) x R)) (Dm.nE (Dm.val D n) x))], .int .i64 (Dm.fR (Dm.sg B (Dm.nQ (Dm.val D n) x R)) (Dm.nE (Dm.val D n) x))]) ∧ Below w.heap.size w w' := by
  have hblk := hD.blk
  have hbw := ((Below.refl w.heap.size w).alloc (Nat.le_refl _) (.cells #[.bool B, .slice (some ⟨b, off, none⟩) n cap, .int .i64 x, .bool R] 56)).alloc (by simp) (.cells #[.int .i64 0, .int .i64 0] 23)
  have hbw' := hide hbw
  have hD2 := hide (hD.below hbw)
  clear hbw
  go_enter Try.func35, Try.ntmps35
  go_upto_region 1 with fail
  go_cut [] from 5 (fun wc => NearRel B R b n cap x D w wc)
  case first =>
    go_region_with (go_at_call 66; refine (noughts_any b off n cap D _ ?_).mono ?_; exact (unhide hD2).below (Below.refl _ _).drew; rintro e w1 ⟨z, rfl, hz, hz0, hz1, rfl⟩)
    all_goals
      generalize hao : (if cap = z then some ({ block := b, off := off } : Addr) else some { block := b, off := off + z }) = ao
      have Hao := hide hao
      clear hao
      go_wp2_with fail
      go_meet
      case rel => exact near_rel hD hz hcap hz0 hz1 (unhide Hao)
  case rest =>
    obtain ⟨z, off', H, c0, c1, c2, c3, d0, d1, f0, f1, hsz, hbel⟩ := hcut
    have hz := (unhide H).1
    go_upto_region 3 with fail
    generalize hy : (if -40 < x + ((n - z : Nat) : Int) - 18 then x + ((n - z : Nat) : Int) - 18 else -40) = y
    obtain ⟨q, hq⟩ : ∃ q, q = Dm.sc (Dm.val (fun j => D (z + j)) (n - z)) (x - y) R := ⟨_, rfl⟩
    obtain ⟨y1, y2, y3, hq2, ey, eq⟩ := Dm.near_facts hD.dig R hn hx1 hx2 hz (unhide H).2.1 (unhide H).2.2.1 hy hq
    have WC := hide (fun wx (h : DS wx b off' (n - z) (fun j => D (z + j))) => wholeAt_any B R b off' (n - z) (cap - z) x y _ wx h (by omega) (by omega) (by omega) (by omega) (by omega) y3)
    rw [← hq] at WC
    have EQ := hide eq
    have EY := hide ey
    clear hy hq ey eq y3
    go_region_with (first
      | (go_at_call 46; refine (unhide WC _ ?_).mono ?_; exact (unhide H).2.2.2.below (Below.refl _ _).drew; rintro e w1 ⟨rfl, hb1⟩; obtain ⟨c0', c1', c2', c3', d0', d1', f0', f1', hsz'⟩ := cells_below hb1 hsz c0 c1 c2 c3 d0 d1 f0 f1)
      | (go_at_call 45; refine (number_any B R _ x ⟨_, _, _, rfl⟩ q y _ hq2 y1 y2).mono ?_; rintro e w2 ⟨rfl, hb2⟩; obtain ⟨c0'', c1'', c2'', c3'', d0'', d1'', f0'', f1'', hsz''⟩ := cells_below0 hb2 hsz' c0' c1' c2' c3' d0' d1' f0' f1'))
    all_goals
      go_wp2
      refine bodyPost_ret (v := .tuple #[.agg #[.int .i64 (Dm.fC (Dm.sg B q) y), .int .i64 (Dm.fE (Dm.sg B q) y)], .int .i64 (Dm.fR (Dm.sg B q) y)]) (by simp [results, Try.results35, go_sem, d0'', d1'']) rfl ⟨?_, ?_⟩
      · rw [unhide EQ, unhide EY]
      · have e1 : Below w.heap.size w w1 := (hbel.drew).trans (hb1.mono (by simp; omega))
        have e2 : Below w.heap.size w w2 := e1.trans (hb2.mono (by omega))
        exact (e2.setCell (by simp) _).setCell (by simp) _
end Go.Proofs.Ytibkemolmpcdcaa
