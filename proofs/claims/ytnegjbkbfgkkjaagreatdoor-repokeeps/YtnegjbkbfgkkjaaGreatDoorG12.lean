/- Digits in memory: a slice of bytes that holds them. -/
import Derived.Test.YtnegjbkbfgkkjaaGreatDoorG08
import Derived.Test.YtnegjbkbfgkkjaaGreatDoorG01
import Derived.Lib.AppendZerosOnto
import Derived.Test.YtnegjbkbfgkkjaaGreatDoorG09
namespace Go.Proofs.YtnegjbkbfgkkjaaGreatDoor
open Go.RowKit

/-- the slice at block b, from off on, holds the n digits that D tells -/
structure DS (w : World) (b off n : Nat) (D : Nat → Nat) : Prop where
  blk : b < w.heap.size
  cell : ∀ j, j < n → w.cell? ⟨b, off + j, none⟩ = some (.int .u8 (D j : Int))
  dig : ∀ j, D j < 10
  len : n ≤ 1000

theorem DS.below {w w' : World} {b off n : Nat} {D : Nat → Nat} (h : DS w b off n D) (hb : Below w.heap.size w w') : DS w' b off n D :=
  ⟨Nat.lt_of_lt_of_le h.blk hb.size, fun j hj => (hb.cell (p := ⟨b, off + j, none⟩) h.blk).trans (h.cell j hj), h.dig, h.len⟩
theorem DS.drop {w : World} {b off n : Nat} {D : Nat → Nat} (h : DS w b off n D) (k : Nat) (hk : k ≤ n) : DS w b (off + k) (n - k) (fun j => D (k + j)) :=
  ⟨h.blk, fun j hj => by rw [Nat.add_assoc]; exact h.cell (k + j) (by omega), fun j => h.dig _, by have := h.len; omega⟩
theorem DS.empty {w : World} {b off n : Nat} {D : Nat → Nat} (h : DS w b off n D) (off' : Nat) {E : Nat → Nat} (hE : ∀ j, E j < 10) {m : Nat} (hm : m = 0) : DS w b off' m E :=
  ⟨h.blk, fun j hj => absurd hj (by omega), hE, by omega⟩
end Go.Proofs.YtnegjbkbfgkkjaaGreatDoor

/- Walks: padded. -/
namespace Go.Proofs.YtnegjbkbfgkkjaaGreatDoor
open Go.RowKit

/-- the cells of n digits -/
def rowL (D : Nat → Nat) (n : Nat) : List Value := (List.range n).map fun j => Value.int .u8 (D j : Int)
theorem rowL_len (D : Nat → Nat) (n : Nat) : (rowL D n).length = n := by simp [rowL]
theorem rowL_at (D : Nat → Nat) {n j : Nat} (h : j < n) : (rowL D n)[j]? = some (Value.int .u8 (D j : Int)) := by simp [rowL, h]
theorem rowL_set (D : Nat → Nat) (n i d : Nat) : (rowL D n).set i (Value.int .u8 (d : Int)) = rowL (Dm.upd D i d) n := by
  apply List.ext_getElem?
  intro j
  rw [List.getElem?_set]
  by_cases h : j < n
  · by_cases e : i = j
    · subst e; rw [if_pos rfl, if_pos (by rw [rowL_len]; exact h), rowL_at _ h, Dm.upd_same]
    · rw [if_neg e, rowL_at _ h, rowL_at _ h, Dm.upd_other (fun q => e q.symm)]
  · have a : (rowL D n)[j]? = none := List.getElem?_eq_none (by rw [rowL_len]; omega)
    have b : (rowL (Dm.upd D i d) n)[j]? = none := List.getElem?_eq_none (by rw [rowL_len]; omega)
    rw [a, b]
    by_cases e : i = j
    · subst e; rw [if_pos rfl, if_neg (by rw [rowL_len]; exact h)]
    · rw [if_neg e]
theorem rowL_zero (n : Nat) : List.replicate n (Value.int .u8 0) = rowL (fun _ => 0) n := by
  apply List.ext_getElem?
  intro j
  by_cases h : j < n
  · rw [rowL_at _ h]; simp [h]
  · rw [List.getElem?_eq_none (by simp; omega), List.getElem?_eq_none (by rw [rowL_len]; omega)]
theorem rowL_congr {D E : Nat → Nat} {n : Nat} (h : ∀ j, j < n → D j = E j) : rowL D n = rowL E n := by
  unfold rowL
  refine List.map_congr_left fun j hj => ?_
  rw [h j (by simpa using hj)]
theorem DS.own {w : World} {base e g n cap : Nat} {D : Nat → Nat} (h : w.ownsRow base e 1 (.slice (some ⟨g, 0, none⟩) n cap) n (rowL D n)) (hD : ∀ j, D j < 10) (hn : n ≤ 1000) : DS w g 0 n D := by
  refine ⟨?_, fun j hj => ?_, hD, hn⟩
  · rcases h.2 with ⟨h', _⟩ | ⟨g', cap', cur, h', _, hg, _⟩
    · simp at h'
    · simp only [Value.slice.injEq, Option.some.injEq, Addr.mk.injEq, and_true, true_and] at h'
      obtain ⟨rfl, rfl⟩ := h'
      rcases Nat.lt_or_ge g w.heap.size with q | q
      · exact q
      · rw [Array.getElem?_eq_none q] at hg; simp at hg
  · rw [Nat.zero_add, h.cellAt j (by omega), rowL_at _ hj]

theorem info_u8 : (Tryz.prog.info? 5).map (fun i => (i.zero, i.size, i.bytes)) = some (some (.int .u8 0), 1, 1) := by kernel_rfl

end Go.Proofs.YtnegjbkbfgkkjaaGreatDoor

/- Walks: noughtsAhead, goesUp, wholeAt. -/
namespace Go.Proofs.YtnegjbkbfgkkjaaGreatDoor
open Go.RowKit

set_option maxHeartbeats 400000 in
theorem noughts_any (b off n cap : Nat) (D : Nat → Nat) (w : World) (h : DS w b off n D) :
    Calls Tryz.prog 170 #[.slice (some ⟨b, off, none⟩) n cap] w fun e w' => ∃ z : Nat, e = .returned (.int .i64 (z : Int)) ∧ z ≤ n ∧ (∀ j, j < z → D j = 0) ∧ (z < n → D z ≠ 0) ∧ w' = w := by
  have hl := h.len
  go_enter Tryz.func170, Tryz.ntmps170
  go_wp2
  go_loop [3] (fun i => ∃ k : Nat, k ≤ n ∧ i = .int .i64 (k : Int) ∧ Hid (∀ j, j < k → D j = 0)) (fun i => n - (intOf i).toNat)
  case atStart => exact ⟨0, Nat.zero_le _, rfl, hide (fun j hj => absurd hj (by omega))⟩
  case round =>
    obtain ⟨k, hk, rfl, H⟩ := hrel
    by_cases hlt : k < n
    · have hcell := h.cell k hlt
      by_cases hd : D k = 0
      · have hd' : ((D k : Int) == 0) = true := by simp [hd]
        have Hd := hide hd
        clear hd
        go_wp2
        go_round
        case rel => exact ⟨k + 1, by omega, by go_num, hide (fun j hj => by rcases Nat.lt_or_ge j k with g | g; · exact unhide H j g
                                                                            · rw [show j = k by omega]; exact unhide Hd)⟩
        case measure => simp [intOf]; omega
      · have hd' : ((D k : Int) == 0) = false := by simp [hd]
        have Hd := hide hd
        clear hd
        go_wp2
        go_ret
        exact ⟨k, rfl, hk, unhide H, fun _ => unhide Hd, rfl⟩
    · go_wp2
      go_ret
      exact ⟨k, rfl, hk, unhide H, fun g => absurd g hlt, rfl⟩

theorem ret_bool {a b : Bool} (h : a = b) : Ending.returned (.bool a) = .returned (.bool b) := by rw [h]

set_option maxHeartbeats 400000 in
theorem goesUp_out (B R odd : Bool) (b off n cap : Nat) (x kept : Int) (w : World) (h : kept < 0 ∨ (n : Int) ≤ kept) :
    Calls Tryz.prog 185 #[.agg #[.bool B, .slice (some ⟨b, off, none⟩) n cap, .int .i64 x, .bool R], .int .i64 kept, .bool odd] w fun e w' => e = .returned (.bool false) ∧ Below w.heap.size w w' := by
  by_cases h0 : kept < 0
  · clear h
    go_enter Tryz.func185, Tryz.ntmps185
    go_wp2
    go_ret
    exact ⟨rfl, (Below.refl _ _).alloc (Nat.le_refl _) _⟩
  · have h1 : (n : Int) ≤ kept := by omega
    clear h
    go_enter Tryz.func185, Tryz.ntmps185
    go_wp2
    go_ret
    exact ⟨rfl, (Below.refl _ _).alloc (Nat.le_refl _) _⟩

set_option maxHeartbeats 400000 in
theorem goesUp_in (B R odd : Bool) (b off n cap : Nat) (x : Int) (k : Nat) (D : Nat → Nat) (w : World) (hD : DS w b off n D) (hk : k < n) (h5 : ((D k : Int) != 5) = true) :
    Calls Tryz.prog 185 #[.agg #[.bool B, .slice (some ⟨b, off, none⟩) n cap, .int .i64 x, .bool R], .int .i64 (k : Int), .bool odd] w fun e w' => e = .returned (.bool (decide (5 < (D k : Int)))) ∧ Below w.heap.size w w' := by
  have hl := hD.len
  have hblk := hD.blk
  have hcell := hD.cell k hk
  have hc2 : (w.alloc (.cells #[.bool B, .slice (some ⟨b, off, none⟩) n cap, .int .i64 x, .bool R] 246)).cell? ⟨b, off + k, none⟩ = some (.int .u8 (D k : Int)) := by
    rw [← hcell]; exact ((Below.refl w.heap.size w).alloc (Nat.le_refl _) _).cell (p := ⟨b, off + k, none⟩) hblk
  go_enter Tryz.func185, Tryz.ntmps185
  go_wp2
  go_ret
  exact ⟨rfl, (Below.refl _ _).alloc (Nat.le_refl _) _⟩

set_option maxHeartbeats 400000 in
theorem goesUp_5 (B R odd : Bool) (b off n cap : Nat) (x : Int) (k : Nat) (D : Nat → Nat) (w : World) (hD : DS w b off n D) (hcap : n ≤ cap) (hk : k < n) (h5 : ((D k : Int) != 5) = false) :
    Calls Tryz.prog 185 #[.agg #[.bool B, .slice (some ⟨b, off, none⟩) n cap, .int .i64 x, .bool R], .int .i64 (k : Int), .bool odd] w fun e w' => e = .returned (.bool (odd || R || decide (0 < Dm.suf D n (n - k - 1)))) ∧ Below w.heap.size w w' := by
  have hl := hD.len
  have hblk := hD.blk
  have hcell := hD.cell k hk
  have hbw := (Below.refl w.heap.size w).alloc (Nat.le_refl _) (.cells #[.bool B, .slice (some ⟨b, off, none⟩) n cap, .int .i64 x, .bool R] 246)
  have hc2 : (w.alloc (.cells #[.bool B, .slice (some ⟨b, off, none⟩) n cap, .int .i64 x, .bool R] 246)).cell? ⟨b, off + k, none⟩ = some (.int .u8 (D k : Int)) := by
    rw [← hcell]; exact hbw.cell (p := ⟨b, off + k, none⟩) hblk
  have hD2 := hide (hD.below hbw)
  clear hbw
  have E0 := fun (z : Nat) a b c => hide (Dm.suf_z D hk (z := z) a b c)
  cases odd
  · cases R
    · by_cases hcp : cap = k + 1
      · subst hcp
        go_enter Tryz.func185, Tryz.ntmps185
        go_wp2_with fail
        refine (noughts_any b off 0 0 (fun j => D (k + 1 + j)) _ ((unhide hD2).empty off (fun j => hD.dig _) rfl)).mono ?_
        rintro e w1 ⟨z, rfl, hz, hz0, hz1, rfl⟩
        have E1 := E0 z (by omega) hz0 (fun g => absurd g (by omega))
        clear hz0 hz1 E0
        go_wp2
        go_ret
        refine ⟨ret_bool ?_, (Below.refl _ _).alloc (Nat.le_refl _) _⟩
        rw [unhide E1]; simp; try omega
      · go_enter Tryz.func185, Tryz.ntmps185
        go_wp2_with fail
        refine (noughts_any b (off + (k + 1)) (n - (k + 1)) _ (fun j => D (k + 1 + j)) _ ((unhide hD2).drop (k + 1) (by omega))).mono ?_
        rintro e w1 ⟨z, rfl, hz, hz0, hz1, rfl⟩
        have E1 := E0 z hz hz0 hz1
        clear hz0 hz1 E0
        go_wp2
        go_ret
        refine ⟨ret_bool ?_, (Below.refl _ _).alloc (Nat.le_refl _) _⟩
        rw [unhide E1]; simp; try omega
    · go_enter Tryz.func185, Tryz.ntmps185
      go_wp2
      all_goals
        go_ret
        exact ⟨rfl, (Below.refl _ _).alloc (Nat.le_refl _) _⟩
  · go_enter Tryz.func185, Tryz.ntmps185
    go_wp2
    all_goals
      go_ret
      exact ⟨rfl, (Below.refl _ _).alloc (Nat.le_refl _) _⟩

theorem goesUp_any (B R odd : Bool) (b off n cap : Nat) (x kept : Int) (D : Nat → Nat) (w : World) (hD : DS w b off n D) (hcap : n ≤ cap) :
    Calls Tryz.prog 185 #[.agg #[.bool B, .slice (some ⟨b, off, none⟩) n cap, .int .i64 x, .bool R], .int .i64 kept, .bool odd] w fun e w' => e = .returned (.bool (Dm.gu D n kept odd R)) ∧ Below w.heap.size w w' := by
  by_cases h : kept < 0 ∨ (n : Int) ≤ kept
  · rw [Dm.gu_out odd R h]
    exact goesUp_out B R odd b off n cap x kept w h
  · obtain ⟨k, rfl⟩ : ∃ k : Nat, kept = (k : Int) := ⟨kept.toNat, by omega⟩
    by_cases h5 : D k = 5
    · rw [Dm.gu_5 odd R (by omega) h5]
      exact goesUp_5 B R odd b off n cap x k D w hD hcap (by omega) (by simp [h5])
    · rw [Dm.gu_in odd R (by omega) h5]
      refine (goesUp_in B R odd b off n cap x k D w hD (by omega) (by simp; omega)).mono ?_
      rintro e w' ⟨rfl, hb⟩
      exact ⟨ret_bool (by simp; omega), hb⟩

end Go.Proofs.YtnegjbkbfgkkjaaGreatDoor

/- Walks: wholeAt. -/
namespace Go.Proofs.YtnegjbkbfgkkjaaGreatDoor
open Go.RowKit

set_option maxHeartbeats 1000000 in
theorem wholeAt_any (B R : Bool) (b off n cap : Nat) (x y : Int) (D : Nat → Nat) (w : World) (hD : DS w b off n D) (hcap : n ≤ cap) (hx1 : -1000 ≤ x) (hx2 : x ≤ 1000) (hy1 : -1000 ≤ y) (hy2 : y ≤ 1000) (hk18 : (n : Int) + x - y ≤ 18) :
    Calls Tryz.prog 172 #[.agg #[.bool B, .slice (some ⟨b, off, none⟩) n cap, .int .i64 x, .bool R], .int .i64 y] w fun e w' => e = .returned (.int .u64 (Dm.sc (Dm.val D n) (x - y) R : Int)) ∧ Below w.heap.size w w' := by
  have hl := hD.len
  have hblk := hD.blk
  have hbw := (Below.refl w.heap.size w).alloc (Nat.le_refl _) (.cells #[.bool B, .slice (some ⟨b, off, none⟩) n cap, .int .i64 x, .bool R] 246)
  have hD2 := hide (hD.below hbw)
  have hbw' := hide hbw
  have hdig := hide hD.dig
  have W := hide (Dm.whole_eq hD.dig n x y R)
  clear hbw hD
  go_enter Tryz.func172, Tryz.ntmps172
  go_wp2
  go_loop [6, 17] (fun a c => ∃ (q k : Nat), a = .int .u64 (q : Int) ∧ c = .int .i64 (k : Int) ∧ Hid (q = Dm.vx D n k) ∧ k ≤ ((n : Int) + x - y).toNat) (fun _ c => ((n : Int) + x - y).toNat - (intOf c).toNat)
  case atStart => exact ⟨0, 0, rfl, rfl, hide (Dm.vx_zero D n).symm, Nat.zero_le _⟩
  case round =>
    obtain ⟨q, k, rfl, rfl, H, hk⟩ := hrel
    by_cases hlt : (k : Int) < (n : Int) + x - y
    · have hq : q < 100000000000000000 := by
        have a := Dm.vx_lt (unhide hdig) n k
        have c := Dm.p10_17 (k := k) (by omega)
        rw [unhide H]; omega
      have hd := unhide hdig k
      by_cases hin : k < n
      · have hcell := (unhide hD2).cell k hin
        have H2 := hide (Dm.vx_in (D := D) hin)
        go_wp2
        go_round
        case rel => exact ⟨q * 10 + D k, k + 1, by go_num, by go_num, hide (by rw [unhide H2, unhide H]), by omega⟩
        case measure => simp [intOf]; omega
      · have H2 := hide (Dm.vx_out (D := D) (n := n) (k := k) (by omega))
        go_wp2
        go_round
        case rel => exact ⟨q * 10, k + 1, by go_num, by go_num, hide (by rw [unhide H2, unhide H]), by omega⟩
        case measure => simp [intOf]; omega
    · have hq : q ≤ 1000000000000000000 := by
        have a := Dm.vx_lt (unhide hdig) n k
        have c := Dm.p10_18 (k := k) (by omega)
        rw [unhide H]; omega
      have ek : ((n : Int) + x - y).toNat = k := by omega
      have H3 : Hid (q + Dm.one (Dm.gu D n ((n : Int) + x - y) (decide (q % 2 = 1)) R) = Dm.sc (Dm.val D n) (x - y) R) := by
        have w9 := unhide W
        rw [ek, ← unhide H] at w9
        exact w9
      clear W hk ek H
      by_cases hodd : q % 2 = 1
      · have ho : ((q : Int) % 2 == 1) = true := by simp; omega
        have H4 : Hid (q + Dm.one (Dm.gu D n ((n : Int) + x - y) true R) = Dm.sc (Dm.val D n) (x - y) R) := by
          have := unhide H3; rw [decide_eq_true hodd] at this; exact this
        clear hodd H3
        go_wp2_with fail
        refine (goesUp_any B R true b off n cap x _ D _ (unhide hD2) hcap).mono ?_
        rintro e w1 ⟨rfl, hb⟩
        have hb0 : Below w.heap.size w w1 := (unhide hbw').trans (hb.mono (by simp))
        cases hg : Dm.gu D n ((n : Int) + x - y) true R
        all_goals
          have H5 := hide (unhide H4)
          rw [hg] at H5
          clear hg H4
          go_wp2
          go_ret
          exact ⟨ret_int (by rw [← unhide H5]; simp [Dm.one]), hb0⟩
      · have ho : ((q : Int) % 2 == 1) = false := by simp; omega
        have H4 : Hid (q + Dm.one (Dm.gu D n ((n : Int) + x - y) false R) = Dm.sc (Dm.val D n) (x - y) R) := by
          have := unhide H3; rw [decide_eq_false hodd] at this; exact this
        clear hodd H3
        go_wp2_with fail
        refine (goesUp_any B R false b off n cap x _ D _ (unhide hD2) hcap).mono ?_
        rintro e w1 ⟨rfl, hb⟩
        have hb0 : Below w.heap.size w w1 := (unhide hbw').trans (hb.mono (by simp))
        cases hg : Dm.gu D n ((n : Int) + x - y) false R
        all_goals
          have H5 := hide (unhide H4)
          rw [hg] at H5
          clear hg H4
          go_wp2
          go_ret
          exact ⟨ret_int (by rw [← unhide H5]; simp [Dm.one]), hb0⟩
end Go.Proofs.YtnegjbkbfgkkjaaGreatDoor

/- Walks: nearest. -/
namespace Go.Proofs.YtnegjbkbfgkkjaaGreatDoor
open Go.RowKit

/-- behind nearest's first statement: the noughts ahead are cut off -/
def NearRel (B R : Bool) (b n cap : Nat) (x : Int) (D : Nat → Nat) (w wc : World) : Prop :=
  ∃ z off' : Nat, Hid (z ≤ n ∧ (∀ j, j < z → D j = 0) ∧ (z < n → D z ≠ 0) ∧ DS wc b off' (n - z) (fun j => D (z + j))) ∧ wc.cell? ⟨w.heap.size, 0, none⟩ = some (.bool B) ∧ wc.cell? ⟨w.heap.size, 1, none⟩ = some (.slice (some ⟨b, off', none⟩) (n - z) (cap - z)) ∧ wc.cell? ⟨w.heap.size, 2, none⟩ = some (.int .i64 x) ∧ wc.cell? ⟨w.heap.size, 3, none⟩ = some (.bool R) ∧ wc.cell? ⟨w.heap.size + 1, 0, none⟩ = some (.int .i64 0) ∧ wc.cell? ⟨w.heap.size + 1, 1, none⟩ = some (.int .i64 0) ∧ wc.frozen? ⟨w.heap.size + 1, 0, none⟩ = false ∧ wc.frozen? ⟨w.heap.size + 1, 1, none⟩ = false ∧ w.heap.size + 2 ≤ wc.heap.size ∧ Below w.heap.size w wc

theorem near_rel {B R : Bool} {b off n cap : Nat} {x : Int} {D : Nat → Nat} {w : World} (hD : DS w b off n D) {z : Nat} (hz : z ≤ n) (hcap : n ≤ cap) (hz0 : ∀ j, j < z → D j = 0) (hz1 : z < n → D z ≠ 0) {ao : Option Addr} (hao : (if cap = z then some ({ block := b, off := off } : Addr) else some { block := b, off := off + z }) = ao) :
    NearRel B R b n cap x D w ((w.alloc (Obj.cells #[Value.bool B, Value.slice ao (n - z) (cap - z), Value.int IntKind.i64 x, Value.bool R] 246)).alloc (Obj.cells #[Value.int IntKind.i64 0, Value.int IntKind.i64 0] 78)).drew := by
  have hb : Below w.heap.size w ((w.alloc (Obj.cells #[Value.bool B, Value.slice ao (n - z) (cap - z), Value.int IntKind.i64 x, Value.bool R] 246)).alloc (Obj.cells #[Value.int IntKind.i64 0, Value.int IntKind.i64 0] 78)).drew :=
    (((Below.refl w.heap.size w).alloc (Nat.le_refl _) _).alloc (by simp) _).drew
  by_cases h : cap = z
  · rw [if_pos h] at hao
    subst hao
    refine ⟨z, off, hide ⟨hz, hz0, hz1, (hD.below hb).empty off (fun j => hD.dig _) (by omega)⟩, by simp [go_sem], by simp [go_sem], by simp [go_sem], by simp [go_sem], by simp [go_sem], by simp [go_sem], by simp [go_sem], by simp [go_sem], by simp, hb⟩
  · rw [if_neg h] at hao
    subst hao
    refine ⟨z, off + z, hide ⟨hz, hz0, hz1, (hD.below hb).drop z hz⟩, by simp [go_sem], by simp [go_sem], by simp [go_sem], by simp [go_sem], by simp [go_sem], by simp [go_sem], by simp [go_sem], by simp [go_sem], by simp, hb⟩

theorem cells_below {wc w1 : World} {h : Nat} {v0 v1 v2 v3 r0 r1 : Value} (hb : Below wc.drew.heap.size wc.drew w1) (hsz : h + 2 ≤ wc.heap.size)
    (c0 : wc.cell? ⟨h, 0, none⟩ = some v0) (c1 : wc.cell? ⟨h, 1, none⟩ = some v1) (c2 : wc.cell? ⟨h, 2, none⟩ = some v2) (c3 : wc.cell? ⟨h, 3, none⟩ = some v3)
    (d0 : wc.cell? ⟨h + 1, 0, none⟩ = some r0) (d1 : wc.cell? ⟨h + 1, 1, none⟩ = some r1) (f0 : wc.frozen? ⟨h + 1, 0, none⟩ = false) (f1 : wc.frozen? ⟨h + 1, 1, none⟩ = false) :
    w1.cell? ⟨h, 0, none⟩ = some v0 ∧ w1.cell? ⟨h, 1, none⟩ = some v1 ∧ w1.cell? ⟨h, 2, none⟩ = some v2 ∧ w1.cell? ⟨h, 3, none⟩ = some v3 ∧
    w1.cell? ⟨h + 1, 0, none⟩ = some r0 ∧ w1.cell? ⟨h + 1, 1, none⟩ = some r1 ∧ w1.frozen? ⟨h + 1, 0, none⟩ = false ∧ w1.frozen? ⟨h + 1, 1, none⟩ = false ∧ h + 2 ≤ w1.heap.size := by
  have e : wc.drew.heap.size = wc.heap.size := rfl
  refine ⟨(hb.cell (p := ⟨h, 0, none⟩) (by show h < _; omega)).trans c0, (hb.cell (p := ⟨h, 1, none⟩) (by show h < _; omega)).trans c1, (hb.cell (p := ⟨h, 2, none⟩) (by show h < _; omega)).trans c2, (hb.cell (p := ⟨h, 3, none⟩) (by show h < _; omega)).trans c3,
    (hb.cell (p := ⟨h + 1, 0, none⟩) (by show h + 1 < _; omega)).trans d0, (hb.cell (p := ⟨h + 1, 1, none⟩) (by show h + 1 < _; omega)).trans d1, (hb.frozen (p := ⟨h + 1, 0, none⟩) (by show h + 1 < _; omega)).trans f0, (hb.frozen (p := ⟨h + 1, 1, none⟩) (by show h + 1 < _; omega)).trans f1, by have := hb.size; omega⟩

theorem cells_below0 {wc w1 : World} {h : Nat} {v0 v1 v2 v3 r0 r1 : Value} (hb : Below wc.heap.size wc w1) (hsz : h + 2 ≤ wc.heap.size)
    (c0 : wc.cell? ⟨h, 0, none⟩ = some v0) (c1 : wc.cell? ⟨h, 1, none⟩ = some v1) (c2 : wc.cell? ⟨h, 2, none⟩ = some v2) (c3 : wc.cell? ⟨h, 3, none⟩ = some v3)
    (d0 : wc.cell? ⟨h + 1, 0, none⟩ = some r0) (d1 : wc.cell? ⟨h + 1, 1, none⟩ = some r1) (f0 : wc.frozen? ⟨h + 1, 0, none⟩ = false) (f1 : wc.frozen? ⟨h + 1, 1, none⟩ = false) :
    w1.cell? ⟨h, 0, none⟩ = some v0 ∧ w1.cell? ⟨h, 1, none⟩ = some v1 ∧ w1.cell? ⟨h, 2, none⟩ = some v2 ∧ w1.cell? ⟨h, 3, none⟩ = some v3 ∧
    w1.cell? ⟨h + 1, 0, none⟩ = some r0 ∧ w1.cell? ⟨h + 1, 1, none⟩ = some r1 ∧ w1.frozen? ⟨h + 1, 0, none⟩ = false ∧ w1.frozen? ⟨h + 1, 1, none⟩ = false ∧ h + 2 ≤ w1.heap.size := by
  refine ⟨(hb.cell (p := ⟨h, 0, none⟩) (by show h < _; omega)).trans c0, (hb.cell (p := ⟨h, 1, none⟩) (by show h < _; omega)).trans c1, (hb.cell (p := ⟨h, 2, none⟩) (by show h < _; omega)).trans c2, (hb.cell (p := ⟨h, 3, none⟩) (by show h < _; omega)).trans c3,
    (hb.cell (p := ⟨h + 1, 0, none⟩) (by show h + 1 < _; omega)).trans d0, (hb.cell (p := ⟨h + 1, 1, none⟩) (by show h + 1 < _; omega)).trans d1, (hb.frozen (p := ⟨h + 1, 0, none⟩) (by show h + 1 < _; omega)).trans f0, (hb.frozen (p := ⟨h + 1, 1, none⟩) (by show h + 1 < _; omega)).trans f1, by have := hb.size; omega⟩

set_option maxHeartbeats 1000000 in
theorem dnearest_any (B R : Bool) (b off n cap : Nat) (x : Int) (D : Nat → Nat) (w : World) (hD : DS w b off n D) (hcap : n ≤ cap) (hn : n ≤ 100) (hx1 : -200 ≤ x) (hx2 : x ≤ 100) :
    Calls Tryz.prog 160 #[.agg #[.bool B, .slice (some ⟨b, off, none⟩) n cap, .int .i64 x, .bool R]] w fun e w' => e = .returned (.tuple #[.agg #[.int .i64 (Dm.fC (Dm.sg B (Dm.nQ (Dm.val D n) x R)) (Dm.nE (Dm.val D n) x)), .int .i64 (Dm.fE (Dm.sg B (Dm.nQ (Dm.val D n) x R)) (Dm.nE (Dm.val D n) x))], .int .i64 (Dm.fR (Dm.sg B (Dm.nQ (Dm.val D n) x R)) (Dm.nE (Dm.val D n) x))]) ∧ Below w.heap.size w w' := by
  have hblk := hD.blk
  have hbw := ((Below.refl w.heap.size w).alloc (Nat.le_refl _) (.cells #[.bool B, .slice (some ⟨b, off, none⟩) n cap, .int .i64 x, .bool R] 246)).alloc (by simp) (.cells #[.int .i64 0, .int .i64 0] 78)
  have hbw' := hide hbw
  have hD2 := hide (hD.below hbw)
  clear hbw
  go_enter Tryz.func160, Tryz.ntmps160
  go_upto_region 1 with fail
  go_cut [] from 5 (fun wc => NearRel B R b n cap x D w wc)
  case first =>
    go_region_with (go_at_call 170; refine (noughts_any b off n cap D _ ?_).mono ?_; exact (unhide hD2).below (Below.refl _ _).drew; rintro e w1 ⟨z, rfl, hz, hz0, hz1, rfl⟩)
    all_goals
      generalize hao : (if cap = z then some ({ block := b, off := off } : Addr) else some { block := b, off := off + z }) = ao
      have Hao := hide hao
      clear hao
      go_wp2_with fail
      go_meet
      case rel => exact near_rel hD hz hcap hz0 hz1 (unhide Hao)
  case rest =>
    obtain ⟨z, off', H, c0, c1, c2, c3, d0, d1, f0, f1, hsz, hbel⟩ := hcut
    have hz := (unhide H).1
    go_upto_region 3 with fail
    generalize hy : (if -40 < x + ((n - z : Nat) : Int) - 18 then x + ((n - z : Nat) : Int) - 18 else -40) = y
    obtain ⟨q, hq⟩ : ∃ q, q = Dm.sc (Dm.val (fun j => D (z + j)) (n - z)) (x - y) R := ⟨_, rfl⟩
    obtain ⟨y1, y2, y3, hq2, ey, eq⟩ := Dm.near_facts hD.dig R hn hx1 hx2 hz (unhide H).2.1 (unhide H).2.2.1 hy hq
    have WC := hide (fun wx (h : DS wx b off' (n - z) (fun j => D (z + j))) => wholeAt_any B R b off' (n - z) (cap - z) x y _ wx h (by omega) (by omega) (by omega) (by omega) (by omega) y3)
    rw [← hq] at WC
    have EQ := hide eq
    have EY := hide ey
    clear hy hq ey eq y3
    go_region_with (first
      | (go_at_call 172; refine (unhide WC _ ?_).mono ?_; exact (unhide H).2.2.2.below (Below.refl _ _).drew; rintro e w1 ⟨rfl, hb1⟩; obtain ⟨c0', c1', c2', c3', d0', d1', f0', f1', hsz'⟩ := cells_below hb1 hsz c0 c1 c2 c3 d0 d1 f0 f1)
      | (go_at_call 171; refine (number_any B R _ x ⟨_, _, _, rfl⟩ q y _ hq2 y1 y2).mono ?_; rintro e w2 ⟨rfl, hb2⟩; obtain ⟨c0'', c1'', c2'', c3'', d0'', d1'', f0'', f1'', hsz''⟩ := cells_below0 hb2 hsz' c0' c1' c2' c3' d0' d1' f0' f1'))
    all_goals
      go_wp2
      refine bodyPost_ret (v := .tuple #[.agg #[.int .i64 (Dm.fC (Dm.sg B q) y), .int .i64 (Dm.fE (Dm.sg B q) y)], .int .i64 (Dm.fR (Dm.sg B q) y)]) (by simp [results, Tryz.results160, go_sem, d0'', d1'']) rfl ⟨?_, ?_⟩
      · rw [unhide EQ, unhide EY]
      · have e1 : Below w.heap.size w w1 := (hbel.drew).trans (hb1.mono (by simp; omega))
        have e2 : Below w.heap.size w w2 := e1.trans (hb2.mono (by omega))
        exact (e2.setCell (by simp) _).setCell (by simp) _
end Go.Proofs.YtnegjbkbfgkkjaaGreatDoor
