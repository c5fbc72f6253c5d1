/- Walks: less. -/
import Derived.Test.YtdkgapapdjefdaaGreatDoorG10
import Derived.Lib.BytesEntry
import Derived.Laws.Externs
import Derived.Test.YtdkgapapdjefdaaGreatDoorG02
namespace Go.Proofs.YtdkgapapdjefdaaGreatDoor
open Go.RowKit

def xsI (X : Nat → Nat) (n : Nat) : List Int := (List.range n).map fun j => (X j : Int)
def mkB (X : Nat → Nat) (n : Nat) : ByteArray := ⟨(Lib.bytesOf (xsI X n)).toArray⟩
theorem mkB_size (X : Nat → Nat) (n : Nat) : (mkB X n).size = n := by
  show (Lib.bytesOf (xsI X n)).toArray.size = n
  simp [Lib.bytesOf, xsI]
theorem mkB_at (X : Nat → Nat) {n i : Nat} (h : i < n) : (mkB X n)[i]! = (X i).toUInt8 := by
  rw [getElem!_pos _ i (by rw [mkB_size]; exact h)]
  have hs : i < (Lib.bytesOf (xsI X n)).toArray.size := by simp [Lib.bytesOf, xsI, h]
  show ((Lib.bytesOf (xsI X n)).toArray)[i]'hs = _
  simp [Lib.bytesOf, xsI]

theorem u8_ne {a b : Nat} (ha : a < 10) (hb : b < 10) : (a.toUInt8 != b.toUInt8) = decide (a ≠ b) := by
  have e : (a.toUInt8 = b.toUInt8) ↔ a = b := by
    rw [← UInt8.toNat_inj]
    simp
    omega
  rw [Bool.eq_iff_iff]
  simp [e]
theorem u8_lt {a b : Nat} (ha : a < 10) (hb : b < 10) : (a.toUInt8 < b.toUInt8) ↔ a < b := by
  simp [UInt8.lt_iff_toNat_lt]
  omega

theorem val_first {X Y : Nat → Nat} (hX : ∀ j, X j < 10) {n i : Nat} (hi : i < n) (h : ∀ j, j < i → X j = Y j) (hlt : X i < Y i) : Dm.val X n < Dm.val Y n := by
  have a := Dm.val_suf X n (n - i) (by omega)
  have b := Dm.val_suf Y n (n - i) (by omega)
  rw [show n - (n - i) = i by omega] at a b
  obtain ⟨k, hk⟩ : ∃ k, n - i = k + 1 := ⟨n - i - 1, by omega⟩
  rw [hk, Dm.suf, show n - (k + 1) = i by omega] at a b
  rw [Dm.val_congr i h] at a
  have l := Dm.suf_lt hX n k
  have m : (X i + 1) * 10 ^ k ≤ Y i * 10 ^ k := Nat.mul_le_mul_right _ hlt
  rw [Nat.add_mul] at m
  omega

theorem cmp_dig {X Y : Nat → Nat} (hX : ∀ j, X j < 10) (hY : ∀ j, Y j < 10) (n : Nat) : decide (Extern.BytealgCompare.cmp (mkB X n) (mkB Y n) < 0) = decide (Dm.val X n < Dm.val Y n) := by
  unfold Extern.BytealgCompare.cmp
  rw [mkB_size, mkB_size, Nat.min_self]
  have key : ∀ j, j < n → ((mkB X n)[j]! != (mkB Y n)[j]!) = decide (X j ≠ Y j) := fun j hj => by rw [mkB_at X hj, mkB_at Y hj, u8_ne (hX j) (hY j)]
  cases hf : (List.range n).find? fun i => (mkB X n)[i]! != (mkB Y n)[i]! with
  | none =>
    have hall : ∀ j, j < n → X j = Y j := by
      intro j hj
      have := List.find?_eq_none.1 hf j (by simpa using hj)
      rw [key j hj] at this
      simpa using this
    rw [Dm.val_congr n hall]
    simp
  | some i =>
    obtain ⟨h1, h2, h3⟩ := List.find?_range_eq_some.1 hf
    have hi : i < n := by simpa using h2
    rw [key i hi] at h1
    have hpre : ∀ j, j < i → X j = Y j := by
      intro j hj
      have := h3 j hj
      rw [key j (by omega)] at this
      simpa using this
    simp only [mkB_at X hi, mkB_at Y hi, u8_lt (hX i) (hY i)]
    rcases Nat.lt_trichotomy (X i) (Y i) with g | g | g
    · have := val_first hX hi hpre g
      simp [g, this]
    · simp [g] at h1
    · have := val_first hY hi (fun j hj => (hpre j hj).symm) g
      rw [if_neg (by omega)]
      simp
      omega

theorem run_compare (bx ox cx b y cy n : Nat) (X Y : Nat → Nat) (w : World) (hX : DS w bx ox n X) (hY : DS w b y n Y) :
    (callFunc 160 #[.slice (some ⟨bx, ox, none⟩) n cx, .slice (some ⟨b, y, none⟩) n cy]).run Tryz.prog w = .ok (.value (.int .i64 (Extern.BytealgCompare.cmp (mkB X n) (mkB Y n)))) w := by
  have ld : ∀ (b o : Nat) (D : Nat → Nat), DS w b o n D → (Extern.Bytes.loadBytes ⟨b, o, none⟩ n .empty).run Tryz.prog w = .ok (mkB D n) w := by
    intro b o D h
    have := Lib.run_loadBytesX (P := Tryz.prog) w (xsI D n) ⟨b, o, none⟩ .empty (fun j x hj => by
      have hjn : j < n := by have := (List.getElem?_eq_some_iff.1 hj).1; simpa [xsI] using this
      rw [Addr.add_lit, h.cell j hjn]
      simp [xsI, hjn] at hj
      rw [hj])
    rw [show (xsI D n).length = n by simp [xsI]] at this
    rw [this]
    congr 1
    unfold mkB
    apply ByteArray.ext
    simp
  rw [run_callFunc_extern Tryz.func160 (by kernel_rfl) (by kernel_rfl) (by kernel_rfl) (e := Extern.BytealgCompare.compare) (by kernel_rfl)]
  change (Sem.run _ (do pure (goInt (Extern.BytealgCompare.cmp (← Extern.Bytes.bytesOf (.slice (some ⟨bx, ox, none⟩) n cx)) (← Extern.Bytes.bytesOf (.slice (some ⟨b, y, none⟩) n cy)))) : Sem Value) w).andThen _ = _
  simp only [Extern.Bytes.bytesOf, Sem.run_bind, Sem.run_pure, ld bx ox X hX, ld b y Y hY, Result.andThen, goInt]

set_option maxHeartbeats 400000 in
theorem nless_any (bx ox cx b y cy n : Nat) (X Y : Nat → Nat) (w : World) (hX : DS w bx ox n X) (hY : DS w b y n Y) :
    Calls Tryz.prog 106 #[.slice (some ⟨bx, ox, none⟩) n cx, .slice (some ⟨b, y, none⟩) n cy] w fun e w' => e = .returned (.bool (decide (Dm.val X n < Dm.val Y n))) ∧ w' = w := by
  have hr := run_compare bx ox cx b y cy n X Y w hX hY
  have E := hide (cmp_dig hX.dig hY.dig n)
  generalize Extern.BytealgCompare.cmp (mkB X n) (mkB Y n) = v at *
  go_enter Tryz.func106, Tryz.ntmps106
  go_wp2
  go_ret
  rw [← unhide E]
  exact ⟨rfl, rfl⟩
end Go.Proofs.YtdkgapapdjefdaaGreatDoor

/- Walks: sum. -/
namespace Go.Proofs.YtdkgapapdjefdaaGreatDoor
open Go.RowKit

/-- behind sum's third statement: the two columns -/
def SumRel (c1 c2 : Int) (W z1 z2 : Nat) (w : World) (a b : Value) (wc : World) : Prop :=
  ∃ g1 k1 g2 k2, a = .slice (some ⟨g1, 0, none⟩) W k1 ∧ b = .slice (some ⟨g2, 0, none⟩) W k2 ∧ Hid (W ≤ k1 ∧ W ≤ k2 ∧ DS wc g1 0 W (Dm.cl c1.natAbs W z1) ∧ DS wc g2 0 W (Dm.cl c2.natAbs W z2)) ∧
    wc.cell? ⟨w.heap.size, 0, none⟩ = some (.int .i64 c1) ∧ wc.cell? ⟨w.heap.size + 1, 0, none⟩ = some (.int .i64 c2) ∧
    wc.cell? ⟨w.heap.size + 1 + 1, 0, none⟩ = some (.bool false) ∧ wc.cell? ⟨w.heap.size + 1 + 1, 1, none⟩ = some (.slice none 0 0) ∧ wc.cell? ⟨w.heap.size + 1 + 1, 2, none⟩ = some (.int .i64 0) ∧ wc.cell? ⟨w.heap.size + 1 + 1, 3, none⟩ = some (.bool false) ∧
    wc.frozen? ⟨w.heap.size + 1 + 1, 0, none⟩ = false ∧ wc.frozen? ⟨w.heap.size + 1 + 1, 1, none⟩ = false ∧ wc.frozen? ⟨w.heap.size + 1 + 1, 2, none⟩ = false ∧ wc.frozen? ⟨w.heap.size + 1 + 1, 3, none⟩ = false ∧ w.heap.size + 3 ≤ wc.heap.size ∧ Below w.heap.size w wc

theorem sum_rel {c1 x1 c2 x2 : Int} {W z1 z2 g1 k1 g2 k2 : Nat} {w w1 w2 : World}
    (hb1 : Below (((w.alloc (.cells #[.int .i64 c1, .int .i64 x1] 24)).alloc (.cells #[.int .i64 c2, .int .i64 x2] 24)).alloc (.cells #[.bool false, .slice none 0 0, .int .i64 0, .bool false] 112)).drew.heap.size
      (((w.alloc (.cells #[.int .i64 c1, .int .i64 x1] 24)).alloc (.cells #[.int .i64 c2, .int .i64 x2] 24)).alloc (.cells #[.bool false, .slice none 0 0, .int .i64 0, .bool false] 112)).drew w1)
    (hb2 : Below w1.heap.size w1 w2) (hk1 : W ≤ k1) (hk2 : W ≤ k2) (hD1 : DS w1 g1 0 W (Dm.cl c1.natAbs W z1)) (hD2 : DS w2 g2 0 W (Dm.cl c2.natAbs W z2)) :
    SumRel c1 c2 W z1 z2 w (.slice (some ⟨g1, 0, none⟩) W k1) (.slice (some ⟨g2, 0, none⟩) W k2) w2 := by
  have s1 := hb1.size
  simp at s1
  have hb := hb1.trans (hb2.mono hb1.size)
  obtain ⟨hc, hf⟩ := bcell hb
  have hw : Below w.heap.size w (((w.alloc (.cells #[.int .i64 c1, .int .i64 x1] 24)).alloc (.cells #[.int .i64 c2, .int .i64 x2] 24)).alloc (.cells #[.bool false, .slice none 0 0, .int .i64 0, .bool false] 112)).drew :=
    ((((Below.refl w.heap.size w).alloc (Nat.le_refl _) _).alloc (by simp) _).alloc (by simp; omega) _).drew
  have s2 := hb2.size
  refine ⟨g1, k1, g2, k2, rfl, rfl, hide ⟨hk1, hk2, hD1.below hb2, hD2⟩, ?_, ?_, ?_, ?_, ?_, ?_, ?_, ?_, ?_, ?_, by omega, hw.trans (hb.mono (by simp; omega))⟩
  all_goals first | (rw [hc _ _ (by simp <;> omega)]; simp [go_sem]; done) | (rw [hf _ _ (by simp <;> omega)]; simp [go_sem]; done)

theorem DS.setCell {w : World} {b off n : Nat} {D : Nat → Nat} (h : DS w b off n D) {a : Addr} (ha : a.block ≠ b) (v : Value) : DS (w.setCell a v) b off n D :=
  ⟨by simpa [World.setCell] using h.blk, fun j hj => (World.cell?_of_block (w := w) (a := ⟨b, off + j, none⟩) (Below.heap_setCell w a v b (fun e => ha e.symm))).trans (h.cell j hj), h.dig, h.len⟩

theorem sum_cells {wc w3 : World} {h nq : Nat} {v0 v1 v2 v3 : Value} (hb : Below (wc.drewN nq).heap.size (wc.drewN nq) w3) (hsz : h + 3 ≤ wc.heap.size)
    (r0 : wc.cell? ⟨h + 1 + 1, 0, none⟩ = some v0) (r1 : wc.cell? ⟨h + 1 + 1, 1, none⟩ = some v1) (r2 : wc.cell? ⟨h + 1 + 1, 2, none⟩ = some v2) (r3 : wc.cell? ⟨h + 1 + 1, 3, none⟩ = some v3)
    (f0 : wc.frozen? ⟨h + 1 + 1, 0, none⟩ = false) (f1 : wc.frozen? ⟨h + 1 + 1, 1, none⟩ = false) (f2 : wc.frozen? ⟨h + 1 + 1, 2, none⟩ = false) (f3 : wc.frozen? ⟨h + 1 + 1, 3, none⟩ = false) :
    w3.cell? ⟨h + 1 + 1, 0, none⟩ = some v0 ∧ w3.cell? ⟨h + 1 + 1, 1, none⟩ = some v1 ∧ w3.cell? ⟨h + 1 + 1, 2, none⟩ = some v2 ∧ w3.cell? ⟨h + 1 + 1, 3, none⟩ = some v3 ∧
    w3.frozen? ⟨h + 1 + 1, 0, none⟩ = false ∧ w3.frozen? ⟨h + 1 + 1, 1, none⟩ = false ∧ w3.frozen? ⟨h + 1 + 1, 2, none⟩ = false ∧ w3.frozen? ⟨h + 1 + 1, 3, none⟩ = false ∧ h + 3 ≤ w3.heap.size := by
  have e : (wc.drewN nq).heap.size = wc.heap.size := rfl
  have l : h + 1 + 1 < (wc.drewN nq).heap.size := by omega
  exact ⟨(hb.cell (p := ⟨h + 1 + 1, 0, none⟩) l).trans r0, (hb.cell (p := ⟨h + 1 + 1, 1, none⟩) l).trans r1, (hb.cell (p := ⟨h + 1 + 1, 2, none⟩) l).trans r2, (hb.cell (p := ⟨h + 1 + 1, 3, none⟩) l).trans r3,
    (hb.frozen (p := ⟨h + 1 + 1, 0, none⟩) l).trans f0, (hb.frozen (p := ⟨h + 1 + 1, 1, none⟩) l).trans f1, (hb.frozen (p := ⟨h + 1 + 1, 2, none⟩) l).trans f2, (hb.frozen (p := ⟨h + 1 + 1, 3, none⟩) l).trans f3, by have := hb.size; omega⟩

theorem sum_facts {x1 x2 low high : Int} (hlow : (if x2 < x1 then x2 else x1) = low) (hhigh : (if x1 < x2 then x2 else x1) = high) (a3 : -40 ≤ x1) (a4 : x1 ≤ 40) (b3 : -40 ≤ x2) (b4 : x2 ≤ 40) :
    ∃ W z1 z2 : Nat, high - low + 18 + 1 = (W : Int) ∧ x1 - low = (z1 : Int) ∧ x2 - low = (z2 : Int) ∧ z1 + 18 < W ∧ z2 + 18 < W ∧ W ≤ 99 ∧ -40 ≤ low ∧ low ≤ 40 ∧ low = min x1 x2 := by
  refine ⟨(high - low + 18 + 1).toNat, (x1 - low).toNat, (x2 - low).toNat, ?_⟩
  split at hlow <;> split at hhigh <;> omega

set_option maxHeartbeats 1000000 in
theorem dsum_any (c1 x1 c2 x2 : Int) (w : World) (a1 : -1000000000000000000 < c1) (a2 : c1 < 1000000000000000000) (a3 : -40 ≤ x1) (a4 : x1 ≤ 40)
    (b1 : -1000000000000000000 < c2) (b2 : c2 < 1000000000000000000) (b3 : -40 ≤ x2) (b4 : x2 ≤ 40) :
    Calls Tryz.prog 69 #[.agg #[.int .i64 c1, .int .i64 x1], .agg #[.int .i64 c2, .int .i64 x2]] w fun e w' => ∃ (B : Bool) (g W cap : Nat) (D : Nat → Nat), e = .returned (.agg #[.bool B, .slice (some ⟨g, 0, none⟩) W cap, .int .i64 (min x1 x2), .bool false]) ∧ W ≤ cap ∧ W ≤ 99 ∧ DS w' g 0 W D ∧ Dm.sg B (Dm.val D W) = Dm.addS c1 x1 c2 x2 ∧ Below w.heap.size w w' := by
  go_enter Tryz.func69, Tryz.ntmps69
  go_upto_region 3 with fail
  generalize hlow : (if x2 < x1 then x2 else x1) = low
  generalize hhigh : (if x1 < x2 then x2 else x1) = high
  obtain ⟨W, z1, z2, hW, e1, e2, h1, h2, hW9, l1, l2, l3⟩ := sum_facts hlow hhigh a3 a4 b3 b4
  rw [hW]
  have L3 := hide l3
  have E1 := hide e1
  have E2 := hide e2
  clear hlow hhigh hW l3 e1 e2
  go_cut [7, 8] from 11 (fun a b wc => SumRel c1 c2 W z1 z2 w a b wc)
  case first =>
    go_region_with (first
      | (go_at_call_of 104 (Value.int IntKind.i64 c1); refine (column_any c1 x1 low W z1 _ a1 a2 (by omega) (unhide E1) (by omega) (by omega) (by omega)).mono ?_; rintro e w1 ⟨g1, k1, rfl, hk1, hD1, hb1⟩; obtain ⟨hc1, hf1⟩ := bcell hb1)
      | (go_at_call_of 104 (Value.int IntKind.i64 c2); refine (column_any c2 x2 low W z2 _ b1 b2 (by omega) (unhide E2) (by omega) (by omega) (by omega)).mono ?_; rintro e w2 ⟨g2, k2, rfl, hk2, hD2, hb2⟩))
    all_goals
      go_wp2_with fail
      go_meet
      case rel => exact sum_rel hb1 hb2 hk1 hk2 hD1 hD2
  case rest =>
    obtain ⟨g1, k1, g2, k2, rfl, rfl, HH, p0, q0, r0, r1, r2, r3, f0, f1, f2, f3, hsz, hbel⟩ := hcut
    have X := unhide HH
    have HX := hide X.2.2.1
    have HY := hide X.2.2.2
    clear X HH
    have V1 := hide (Dm.val_cl (N := c1.natAbs) (W := W) (z := z1) (by omega) (Dm.col_lt (by omega) h1).2)
    have V2 := hide (Dm.val_cl (N := c2.natAbs) (W := W) (z := z2) (by omega) (Dm.col_lt (by omega) h2).2)
    by_cases s1 : c1 < 0
    · by_cases s2 : c2 < 0
      · go_wp2
        go_quiet (fail)
        go_wp2_with fail
        refine (plus_any _ _ _ _ _ _ W _ _ _ ((unhide HX).below (below_drewN (Below.refl _ _) nq)) ((unhide HY).below (below_drewN (Below.refl _ _) nq))).mono ?_
        rintro e w3 ⟨R, rfl, hR, hv, hb3⟩
        have hv' := hide (hv (by rw [unhide V1, unhide V2]; have := (Dm.col_lt (N := c1.natAbs) (by omega) h1).1; have := (Dm.col_lt (N := c2.natAbs) (by omega) h2).1; rw [Dm.p10_W (W := W) (by omega)]; omega))
        obtain ⟨r0', r1', r2', r3', f0', f1', f2', f3', hsz'⟩ := sum_cells hb3 hsz r0 r1 r2 r3 f0 f1 f2 f3
        have hR' := hide hR
        clear hR hv p0 q0
        go_wp2
        refine bodyPost_ret (v := .agg #[.bool true, .slice (some ⟨wc.heap.size, 0, none⟩) W W, .int .i64 low, .bool false]) (by simp [results, Tryz.results69, go_sem, r0', r1', r2', r3']) rfl ?_
        rw [unhide L3]
        exact ⟨true, wc.heap.size, W, W, R, rfl, Nat.le_refl _, hW9, ((((unhide hR').setCell (by simp; omega) _).setCell (by simp; omega) _).setCell (by simp; omega) _).setCell (by simp; omega) _, (Dm.sum_plus (Dm.addS_eq (unhide L3) (unhide E1) (unhide E2)) (by rw [unhide hv', unhide V1, unhide V2])).1 (by omega) (by omega), (((((below_drewN hbel nq).trans (hb3.mono (by simp; omega))).setCell (by simp; omega) _).setCell (by simp; omega) _).setCell (by simp; omega) _).setCell (by simp; omega) _⟩
      · have d2 : decide (c2 < 0) = false := by simp; omega
        go_wp2
        go_quiet (fail)
        by_cases hl : Dm.val (Dm.cl c1.natAbs W z1) W < Dm.val (Dm.cl c2.natAbs W z2) W
        · go_wp2_with fail
          refine (nless_any _ _ _ _ _ _ W _ _ _ ((unhide HX).below (below_drewN (Below.refl _ _) nq)) ((unhide HY).below (below_drewN (Below.refl _ _) nq))).mono ?_
          rintro e w2 ⟨rfl, rfl⟩
          go_wp2_with fail
          refine (minus_any _ _ _ _ _ _ W _ _ _ ((unhide HY).below (below_drewN (Below.refl _ _) nq)) ((unhide HX).below (below_drewN (Below.refl _ _) nq))).mono ?_
          rintro e w3 ⟨R, rfl, hR, hv, hb3⟩
          have hv' := hide (hv (by omega))
          obtain ⟨r0', r1', r2', r3', f0', f1', f2', f3', hsz'⟩ := sum_cells hb3 hsz r0 r1 r2 r3 f0 f1 f2 f3
          have hR' := hide hR
          clear hR hv p0 q0
          go_wp2
          refine bodyPost_ret (v := .agg #[.bool false, .slice (some ⟨wc.heap.size, 0, none⟩) W W, .int .i64 low, .bool false]) (by simp [results, Tryz.results69, go_sem, r0', r1', r2', r3']) rfl ?_
          rw [unhide L3]
          exact ⟨false, wc.heap.size, W, W, R, rfl, Nat.le_refl _, hW9, ((((unhide hR').setCell (by simp; omega) _).setCell (by simp; omega) _).setCell (by simp; omega) _).setCell (by simp; omega) _, (Dm.sum_minus ((Dm.addS_eq (unhide L3) (unhide E1) (unhide E2)).trans (Int.add_comm _ _)) (by have := hl; rw [unhide V1, unhide V2] at this; omega) (by rw [unhide hv', unhide V1, unhide V2])).2 (by omega) (by omega), (((((below_drewN hbel nq).trans (hb3.mono (by simp; omega))).setCell (by simp; omega) _).setCell (by simp; omega) _).setCell (by simp; omega) _).setCell (by simp; omega) _⟩
        · go_wp2_with fail
          refine (nless_any _ _ _ _ _ _ W _ _ _ ((unhide HX).below (below_drewN (Below.refl _ _) nq)) ((unhide HY).below (below_drewN (Below.refl _ _) nq))).mono ?_
          rintro e w2 ⟨rfl, rfl⟩
          go_wp2_with fail
          refine (minus_any _ _ _ _ _ _ W _ _ _ ((unhide HX).below (below_drewN (Below.refl _ _) nq)) ((unhide HY).below (below_drewN (Below.refl _ _) nq))).mono ?_
          rintro e w3 ⟨R, rfl, hR, hv, hb3⟩
          have hv' := hide (hv (by omega))
          obtain ⟨r0', r1', r2', r3', f0', f1', f2', f3', hsz'⟩ := sum_cells hb3 hsz r0 r1 r2 r3 f0 f1 f2 f3
          have hR' := hide hR
          clear hR hv p0 q0
          go_wp2
          refine bodyPost_ret (v := .agg #[.bool true, .slice (some ⟨wc.heap.size, 0, none⟩) W W, .int .i64 low, .bool false]) (by simp [results, Tryz.results69, go_sem, r0', r1', r2', r3']) rfl ?_
          rw [unhide L3]
          exact ⟨true, wc.heap.size, W, W, R, rfl, Nat.le_refl _, hW9, ((((unhide hR').setCell (by simp; omega) _).setCell (by simp; omega) _).setCell (by simp; omega) _).setCell (by simp; omega) _, (Dm.sum_minus (Dm.addS_eq (unhide L3) (unhide E1) (unhide E2)) (by have := hl; rw [unhide V1, unhide V2] at this; omega) (by rw [unhide hv', unhide V1, unhide V2])).1 (by omega) (by omega), (((((below_drewN hbel nq).trans (hb3.mono (by simp; omega))).setCell (by simp; omega) _).setCell (by simp; omega) _).setCell (by simp; omega) _).setCell (by simp; omega) _⟩
    · by_cases s2 : c2 < 0
      · have d1 : decide (c1 < 0) = false := by simp; omega
        go_wp2
        go_quiet (fail)
        by_cases hl : Dm.val (Dm.cl c1.natAbs W z1) W < Dm.val (Dm.cl c2.natAbs W z2) W
        · go_wp2_with fail
          refine (nless_any _ _ _ _ _ _ W _ _ _ ((unhide HX).below (below_drewN (Below.refl _ _) nq)) ((unhide HY).below (below_drewN (Below.refl _ _) nq))).mono ?_
          rintro e w2 ⟨rfl, rfl⟩
          go_wp2_with fail
          refine (minus_any _ _ _ _ _ _ W _ _ _ ((unhide HY).below (below_drewN (Below.refl _ _) nq)) ((unhide HX).below (below_drewN (Below.refl _ _) nq))).mono ?_
          rintro e w3 ⟨R, rfl, hR, hv, hb3⟩
          have hv' := hide (hv (by omega))
          obtain ⟨r0', r1', r2', r3', f0', f1', f2', f3', hsz'⟩ := sum_cells hb3 hsz r0 r1 r2 r3 f0 f1 f2 f3
          have hR' := hide hR
          clear hR hv p0 q0
          go_wp2
          refine bodyPost_ret (v := .agg #[.bool true, .slice (some ⟨wc.heap.size, 0, none⟩) W W, .int .i64 low, .bool false]) (by simp [results, Tryz.results69, go_sem, r0', r1', r2', r3']) rfl ?_
          rw [unhide L3]
          exact ⟨true, wc.heap.size, W, W, R, rfl, Nat.le_refl _, hW9, ((((unhide hR').setCell (by simp; omega) _).setCell (by simp; omega) _).setCell (by simp; omega) _).setCell (by simp; omega) _, (Dm.sum_minus ((Dm.addS_eq (unhide L3) (unhide E1) (unhide E2)).trans (Int.add_comm _ _)) (by have := hl; rw [unhide V1, unhide V2] at this; omega) (by rw [unhide hv', unhide V1, unhide V2])).1 (by omega) (by omega), (((((below_drewN hbel nq).trans (hb3.mono (by simp; omega))).setCell (by simp; omega) _).setCell (by simp; omega) _).setCell (by simp; omega) _).setCell (by simp; omega) _⟩
        · go_wp2_with fail
          refine (nless_any _ _ _ _ _ _ W _ _ _ ((unhide HX).below (below_drewN (Below.refl _ _) nq)) ((unhide HY).below (below_drewN (Below.refl _ _) nq))).mono ?_
          rintro e w2 ⟨rfl, rfl⟩
          go_wp2_with fail
          refine (minus_any _ _ _ _ _ _ W _ _ _ ((unhide HX).below (below_drewN (Below.refl _ _) nq)) ((unhide HY).below (below_drewN (Below.refl _ _) nq))).mono ?_
          rintro e w3 ⟨R, rfl, hR, hv, hb3⟩
          have hv' := hide (hv (by omega))
          obtain ⟨r0', r1', r2', r3', f0', f1', f2', f3', hsz'⟩ := sum_cells hb3 hsz r0 r1 r2 r3 f0 f1 f2 f3
          have hR' := hide hR
          clear hR hv p0 q0
          go_wp2
          refine bodyPost_ret (v := .agg #[.bool false, .slice (some ⟨wc.heap.size, 0, none⟩) W W, .int .i64 low, .bool false]) (by simp [results, Tryz.results69, go_sem, r0', r1', r2', r3']) rfl ?_
          rw [unhide L3]
          exact ⟨false, wc.heap.size, W, W, R, rfl, Nat.le_refl _, hW9, ((((unhide hR').setCell (by simp; omega) _).setCell (by simp; omega) _).setCell (by simp; omega) _).setCell (by simp; omega) _, (Dm.sum_minus (Dm.addS_eq (unhide L3) (unhide E1) (unhide E2)) (by have := hl; rw [unhide V1, unhide V2] at this; omega) (by rw [unhide hv', unhide V1, unhide V2])).2 (by omega) (by omega), (((((below_drewN hbel nq).trans (hb3.mono (by simp; omega))).setCell (by simp; omega) _).setCell (by simp; omega) _).setCell (by simp; omega) _).setCell (by simp; omega) _⟩
      · have d1 : decide (c1 < 0) = false := by simp; omega
        have d2 : decide (c2 < 0) = false := by simp; omega
        go_wp2
        go_quiet (fail)
        go_wp2_with fail
        refine (plus_any _ _ _ _ _ _ W _ _ _ ((unhide HX).below (below_drewN (Below.refl _ _) nq)) ((unhide HY).below (below_drewN (Below.refl _ _) nq))).mono ?_
        rintro e w3 ⟨R, rfl, hR, hv, hb3⟩
        have hv' := hide (hv (by rw [unhide V1, unhide V2]; have := (Dm.col_lt (N := c1.natAbs) (by omega) h1).1; have := (Dm.col_lt (N := c2.natAbs) (by omega) h2).1; rw [Dm.p10_W (W := W) (by omega)]; omega))
        obtain ⟨r0', r1', r2', r3', f0', f1', f2', f3', hsz'⟩ := sum_cells hb3 hsz r0 r1 r2 r3 f0 f1 f2 f3
        have hR' := hide hR
        clear hR hv p0 q0
        go_wp2
        refine bodyPost_ret (v := .agg #[.bool false, .slice (some ⟨wc.heap.size, 0, none⟩) W W, .int .i64 low, .bool false]) (by simp [results, Tryz.results69, go_sem, r0', r1', r2', r3']) rfl ?_
        rw [unhide L3]
        exact ⟨false, wc.heap.size, W, W, R, rfl, Nat.le_refl _, hW9, ((((unhide hR').setCell (by simp; omega) _).setCell (by simp; omega) _).setCell (by simp; omega) _).setCell (by simp; omega) _, (Dm.sum_plus (Dm.addS_eq (unhide L3) (unhide E1) (unhide E2)) (by rw [unhide hv', unhide V1, unhide V2])).2 (by omega) (by omega), (((((below_drewN hbel nq).trans (hb3.mono (by simp; omega))).setCell (by simp; omega) _).setCell (by simp; omega) _).setCell (by simp; omega) _).setCell (by simp; omega) _⟩
end Go.Proofs.YtdkgapapdjefdaaGreatDoor

/- Walks: Add, alive. -/
namespace Go.Proofs.YtdkgapapdjefdaaGreatDoor
open Go.RowKit

/-- what is ntold of the fraction S times 10^x -/
def ntold (S x : Int) (R : Bool) : Ending := .returned (.tuple #[.agg #[.int .i64 (Dm.fC (Dm.nearZ S x R) (Dm.nE S.natAbs x)), .int .i64 (Dm.fE (Dm.nearZ S x R) (Dm.nE S.natAbs x))], .int .i64 (Dm.fR (Dm.nearZ S x R) (Dm.nE S.natAbs x))])

theorem three_cells {w w3 : World} {c1 x1 c2 x2 : Int}
    (hb : Below (((w.alloc (.cells #[.int .i64 c1, .int .i64 x1] 24)).alloc (.cells #[.int .i64 c2, .int .i64 x2] 24)).alloc (.cells #[.int .i64 0, .int .i64 0] 24)).heap.size
      (((w.alloc (.cells #[.int .i64 c1, .int .i64 x1] 24)).alloc (.cells #[.int .i64 c2, .int .i64 x2] 24)).alloc (.cells #[.int .i64 0, .int .i64 0] 24)) w3) :
    w3.cell? ⟨w.heap.size, 0, none⟩ = some (.int .i64 c1) ∧ w3.cell? ⟨w.heap.size, 1, none⟩ = some (.int .i64 x1) ∧ w3.cell? ⟨w.heap.size + 1, 0, none⟩ = some (.int .i64 c2) ∧ w3.cell? ⟨w.heap.size + 1, 1, none⟩ = some (.int .i64 x2) ∧
    w3.cell? ⟨w.heap.size + 1 + 1, 0, none⟩ = some (.int .i64 0) ∧ w3.cell? ⟨w.heap.size + 1 + 1, 1, none⟩ = some (.int .i64 0) ∧ w3.frozen? ⟨w.heap.size + 1 + 1, 0, none⟩ = false ∧ w3.frozen? ⟨w.heap.size + 1 + 1, 1, none⟩ = false ∧ w.heap.size + 3 ≤ w3.heap.size ∧ Below w.heap.size w w3 := by
  obtain ⟨hc, hf⟩ := bcell hb
  have s := hb.size
  simp at s
  have hw : Below w.heap.size w (((w.alloc (.cells #[.int .i64 c1, .int .i64 x1] 24)).alloc (.cells #[.int .i64 c2, .int .i64 x2] 24)).alloc (.cells #[.int .i64 0, .int .i64 0] 24)) :=
    (((Below.refl w.heap.size w).alloc (Nat.le_refl _) _).alloc (by simp) _).alloc (by simp; omega) _
  refine ⟨?_, ?_, ?_, ?_, ?_, ?_, ?_, ?_, by omega, hw.trans (hb.mono (by simp; omega))⟩
  all_goals first | (rw [hc _ _ (by simp <;> omega)]; simp [go_sem]; done) | (rw [hf _ _ (by simp <;> omega)]; simp [go_sem]; done)

set_option maxHeartbeats 400000 in
theorem add_no (c1 x1 c2 x2 : Int) (w : World) (h : (Dm.wrong2 c1 x1 c2 x2 != 0) = true) :
    Calls Tryz.prog 33 #[.agg #[.int .i64 c1, .int .i64 x1], .agg #[.int .i64 c2, .int .i64 x2]] w fun e w' => e = .returned (.tuple #[.agg #[.int .i64 0, .int .i64 0], .int .i64 (Dm.wrong2 c1 x1 c2 x2)]) ∧ Below w.heap.size w w' := by
  go_enter Tryz.func33, Tryz.ntmps33
  go_wp2_with fail
  refine (wrongOf_any c1 x1 c2 x2 _).mono ?_
  rintro e w1 ⟨rfl, hb⟩
  obtain ⟨t0, t1, t2, t3, t4, t5, f0, f1, hz, hbw⟩ := three_cells hb
  go_wp2
  exact bodyPost_ret (v := .tuple #[.agg #[.int .i64 0, .int .i64 0], .int .i64 (Dm.wrong2 c1 x1 c2 x2)]) (by simp [results, Tryz.results33, go_sem, t4, t5]) rfl ⟨rfl, (hbw.setCell (by simp; omega) _).setCell (by simp; omega) _⟩

set_option maxHeartbeats 400000 in
theorem add_ok (c1 x1 c2 x2 : Int) (w : World) (h1 : Dm.wrongN c1 x1 = 0) (h2 : Dm.wrongN c2 x2 = 0) :
    Calls Tryz.prog 33 #[.agg #[.int .i64 c1, .int .i64 x1], .agg #[.int .i64 c2, .int .i64 x2]] w fun e w' => e = ntold (Dm.addS c1 x1 c2 x2) (min x1 x2) false ∧ Below w.heap.size w w' := by
  obtain ⟨p1, p2, p3, p4, _⟩ := Dm.wrong_ok h1
  obtain ⟨q1, q2, q3, q4, _⟩ := Dm.wrong_ok h2
  have H := hide ((Dm.wrong2_ok h1 c2 x2).trans h2)
  have M := hide (show -40 ≤ min x1 x2 ∧ min x1 x2 ≤ 40 by omega)
  clear h1 h2
  go_enter Tryz.func33, Tryz.ntmps33
  go_wp2_with fail
  refine (wrongOf_any c1 x1 c2 x2 _).mono ?_
  rintro e w1 ⟨rfl, hb⟩
  obtain ⟨t0, t1, t2, t3, t4, t5, f0, f1, hz, hbw⟩ := three_cells hb
  rw [unhide H]
  go_wp2_with fail
  refine (dsum_any c1 x1 c2 x2 _ p1 p2 p3 p4 q1 q2 q3 q4).mono ?_
  rintro e w2 ⟨B, g, W, cap, D, rfl, hcap, hW, hD, hsg, hb2⟩
  have NZ := hide (Dm.sg_near hsg (min x1 x2))
  have hD' := hide hD
  have hb3 := hb.trans (hb2.mono hb.size)
  clear hsg hD t0 t1 t2 t3 t4 t5 f0 f1 hz hbw
  generalize hlow : min x1 x2 = low at *
  have HL := hide hlow
  clear hlow
  go_wp2_with fail
  refine (dnearest_any B false g 0 W cap low D _ (unhide hD') hcap (by omega) (by have := (unhide M).1; omega) (by have := (unhide M).2; omega)).mono ?_
  rintro e w3 ⟨rfl, hb4⟩
  obtain ⟨t0, t1, t2, t3, t4, t5, f0, f1, hz, hbw⟩ := three_cells (hb3.trans (hb4.mono hb3.size))
  rw [(unhide NZ).1, (unhide NZ).2]
  clear NZ hb4 hb3 hb2 hb
  go_wp2
  exact bodyPost_ret (v := .tuple #[.agg #[.int .i64 (Dm.fC (Dm.nearZ (Dm.addS c1 x1 c2 x2) low false) (Dm.nE (Dm.addS c1 x1 c2 x2).natAbs low)), .int .i64 (Dm.fE (Dm.nearZ (Dm.addS c1 x1 c2 x2) low false) (Dm.nE (Dm.addS c1 x1 c2 x2).natAbs low))], .int .i64 (Dm.fR (Dm.nearZ (Dm.addS c1 x1 c2 x2) low false) (Dm.nE (Dm.addS c1 x1 c2 x2).natAbs low))]) (by simp [results, Tryz.results33, go_sem, t4, t5]) rfl ⟨by rw [unhide HL]; rfl, (hbw.setCell (by simp; omega) _).setCell (by simp; omega) _⟩

theorem alive_val : ntold (Dm.addS 15 (-1) 5 (-1)) (min (-1) (-1)) false = .returned (.tuple #[.agg #[.int .i64 2, .int .i64 0], .int .i64 0]) := by
  have a : Dm.fC (Dm.nearZ (Dm.addS 15 (-1) 5 (-1)) (min (-1) (-1)) false) (Dm.nE (Dm.addS 15 (-1) 5 (-1)).natAbs (min (-1) (-1))) = 2 := by decide +kernel
  have b : Dm.fE (Dm.nearZ (Dm.addS 15 (-1) 5 (-1)) (min (-1) (-1)) false) (Dm.nE (Dm.addS 15 (-1) 5 (-1)).natAbs (min (-1) (-1))) = 0 := by decide +kernel
  have c : Dm.fR (Dm.nearZ (Dm.addS 15 (-1) 5 (-1)) (min (-1) (-1)) false) (Dm.nE (Dm.addS 15 (-1) 5 (-1)).natAbs (min (-1) (-1))) = 0 := by decide +kernel
  unfold ntold
  rw [a, b, c]
end Go.Proofs.YtdkgapapdjefdaaGreatDoor

/- Walks: opposite, Sub, towardsZero, Floor, Ceil. -/
namespace Go.Proofs.YtdkgapapdjefdaaGreatDoor
open Go.RowKit

set_option maxHeartbeats 400000 in
theorem opposite_any (c x : Int) (w : World) (h1 : -1000000000000000000 < c) (h2 : c < 1000000000000000000) :
    Calls Tryz.prog 70 #[.agg #[.int .i64 c, .int .i64 x]] w fun e w' => e = .returned (.agg #[.int .i64 (-c), .int .i64 x]) ∧ Below w.heap.size w w' := by
  go_enter Tryz.func70, Tryz.ntmps70
  go_wp2
  exact bodyPost_ret (v := .agg #[.int .i64 (-c), .int .i64 x]) (by simp [results, Tryz.results70, go_sem]) rfl ⟨rfl, ((Below.refl _ _).alloc (Nat.le_refl _) _).alloc (by simp) _⟩

set_option maxHeartbeats 400000 in
theorem sub_no (c1 x1 c2 x2 : Int) (w : World) (h : (Dm.wrong2 c1 x1 c2 x2 != 0) = true) :
    Calls Tryz.prog 32 #[.agg #[.int .i64 c1, .int .i64 x1], .agg #[.int .i64 c2, .int .i64 x2]] w fun e w' => e = .returned (.tuple #[.agg #[.int .i64 0, .int .i64 0], .int .i64 (Dm.wrong2 c1 x1 c2 x2)]) ∧ Below w.heap.size w w' := by
  go_enter Tryz.func32, Tryz.ntmps32
  go_wp2_with fail
  refine (wrongOf_any c1 x1 c2 x2 _).mono ?_
  rintro e w1 ⟨rfl, hb⟩
  obtain ⟨t0, t1, t2, t3, t4, t5, f0, f1, hz, hbw⟩ := three_cells hb
  go_wp2
  exact bodyPost_ret (v := .tuple #[.agg #[.int .i64 0, .int .i64 0], .int .i64 (Dm.wrong2 c1 x1 c2 x2)]) (by simp [results, Tryz.results32, go_sem, t4, t5]) rfl ⟨rfl, (hbw.setCell (by simp; omega) _).setCell (by simp; omega) _⟩


set_option maxHeartbeats 1000000 in
theorem sub_ok (c1 x1 c2 x2 : Int) (w : World) (h1 : Dm.wrongN c1 x1 = 0) (h2 : Dm.wrongN c2 x2 = 0) :
    Calls Tryz.prog 32 #[.agg #[.int .i64 c1, .int .i64 x1], .agg #[.int .i64 c2, .int .i64 x2]] w fun e w' => e = ntold (Dm.addS c1 x1 (-c2) x2) (min x1 x2) false ∧ Below w.heap.size w w' := by
  obtain ⟨p1, p2, p3, p4, _⟩ := Dm.wrong_ok h1
  obtain ⟨q1, q2, q3, q4, _⟩ := Dm.wrong_ok h2
  have H := hide ((Dm.wrong2_ok h1 c2 x2).trans h2)
  have M := hide (show -40 ≤ min x1 x2 ∧ min x1 x2 ≤ 40 by omega)
  clear h1 h2
  go_enter Tryz.func32, Tryz.ntmps32
  go_wp2_with fail
  refine (wrongOf_any c1 x1 c2 x2 _).mono ?_
  rintro e w1 ⟨rfl, hb⟩
  obtain ⟨t0, t1, t2, t3, t4, t5, f0, f1, hz, hbw⟩ := three_cells hb
  rw [unhide H]
  have OP := hide (fun wx => opposite_any c2 x2 wx q1 q2)
  have SU := hide (fun wx => dsum_any c1 x1 (-c2) x2 wx p1 p2 p3 p4 (by omega) (by omega) q3 q4)
  go_upto_region 4 with fail
  go_region_with (first
    | (go_at_call 70; refine (unhide OP _).mono ?_; rintro e w2 ⟨rfl, hb2⟩; have hb2 := hb.drew.trans (hb2.mono hb.size); obtain ⟨t0', t1', t2', t3', t4', t5', f0', f1', hz', hbw'⟩ := three_cells hb2)
    | (go_at_call 69; refine (unhide SU _).mono ?_; rintro e w3 ⟨B, g, W, cap, D, rfl, hcap, hW, hD, hsg, hb3⟩; have hb3 := hb2.trans (hb3.mono hb2.size); have NZ := hide (Dm.sg_near hsg (min x1 x2)); clear hsg)
    | (go_at_call 71; refine (dnearest_any B false g 0 W cap (min x1 x2) D _ hD hcap (by omega) (by have := (unhide M).1; omega) (by have := (unhide M).2; omega)).mono ?_; rintro e w4 ⟨rfl, hb4⟩; have hb4 := hb3.trans (hb4.mono hb3.size); obtain ⟨u0, u1, u2, u3, u4, u5, k0, k1, kz, hbu⟩ := three_cells hb4; rw [(unhide NZ).1, (unhide NZ).2]))
  all_goals
    go_wp2
    exact bodyPost_ret (v := .tuple #[.agg #[.int .i64 (Dm.fC (Dm.nearZ (Dm.addS c1 x1 (-c2) x2) (min x1 x2) false) (Dm.nE (Dm.addS c1 x1 (-c2) x2).natAbs (min x1 x2))), .int .i64 (Dm.fE (Dm.nearZ (Dm.addS c1 x1 (-c2) x2) (min x1 x2) false) (Dm.nE (Dm.addS c1 x1 (-c2) x2).natAbs (min x1 x2)))], .int .i64 (Dm.fR (Dm.nearZ (Dm.addS c1 x1 (-c2) x2) (min x1 x2) false) (Dm.nE (Dm.addS c1 x1 (-c2) x2).natAbs (min x1 x2)))]) (by simp [results, Tryz.results32, go_sem, u4, u5]) rfl ⟨rfl, (hbu.setCell (by simp; omega) _).setCell (by simp; omega) _⟩
end Go.Proofs.YtdkgapapdjefdaaGreatDoor
