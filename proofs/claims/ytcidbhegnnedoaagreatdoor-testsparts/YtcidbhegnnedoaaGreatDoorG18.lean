/- The walk over TestsOrder. (Written by gen_wo.py.) -/
import Derived.Test.YtcidbhegnnedoaaGreatDoorG17
namespace Go.Proofs.YtcidbhegnnedoaaGreatDoor
open Go.RowKit

theorem callO9 (zs : Array Value) (w : World) : Sem.run Tryz.prog (callFunc 9 zs) w = .ok (.enter 9 zs) w := by simp [go_sem]
theorem callO11 (zs : Array Value) (w : World) : Sem.run Tryz.prog (callFunc 11 zs) w = .ok (.enter 11 zs) w := by simp [go_sem]
theorem callO8 (zs : Array Value) (w : World) : Sem.run Tryz.prog (callFunc 8 zs) w = .ok (.enter 8 zs) w := by simp [go_sem]
theorem z1 {n : Nat} {args : Array Value} {w : World} {v : Value} (h : Calls Tryz.prog n args w fun e w' => e = .returned v ∧ Below w.heap.size w w') : Calls Tryz.prog n args w fun e w' => ∃ u, e = .returned u ∧ u = v ∧ Below w.heap.size w w' :=
  h.mono fun _ _ ⟨q1, q2⟩ => ⟨_, q1, rfl, q2⟩
theorem BkA.box {w : World} {b : Nat} {v0 v1 v2 v3 v4 v5 : Value} (h : BkA w b #[v0, v1, v2, v3, v4, v5]) : Box w b #[v0, v1, v2, v3, v4, v5] :=
  ⟨h.low, h.cell 0 _ rfl, h.cell 1 _ rfl, h.cell 2 _ rfl, h.cell 3 _ rfl, h.cell 4 _ rfl, h.cell 5 _ rfl, h.free⟩
theorem below2 (w : World) (o o' : Obj) : Below w.heap.size w ((w.alloc o).alloc o') := bv (vbelow_new w o) (vbelow_new _ o')
section
variable {a : Act} {w : World} {d : Option Nat} {t : TypeId} {p : String} {af : Array Edge} {g : Option (Nat × Bool)}
theorem run_eq1 {x : Operand} (hx : a.eval x = .int .i64 1) : (execOp a.eval ⟨d, .binOp .eql 3 x (.const (.int .i64 1)) 3, t, p, af, g⟩).run Tryz.prog w = .ok (.value (.bool true)) w := by
  have e1 : a.eval (.const (.int .i64 1)) = .int .i64 1 := rfl
  generalize a.eval = E at hx e1 ⊢
  simp [go_sem, hx, e1]
end

set_option maxRecDepth 100000 in
set_option maxHeartbeats 20000000 in
theorem order_early (ka : Int) (y : Bool) (c x : Int) (s : ByteArray) (l : Option Addr) (n m : Nat) (kv : Int) (y' : Bool) (c' x' : Int) (s' : ByteArray) (l' : Option Addr) (n' m' : Nat) (W F : Int) (w : World)
    (KA : Hid (∀ wx, Below w.heap.size w wx → Calls Tryz.prog 5 #[] wx fun r w' => r = .returned (.bool true) ∧ Below wx.heap.size wx w'))
    (KW : Hid (∀ wx, Below w.heap.size w wx → Calls Tryz.prog 6 #[.agg (tA 3 ka y c x s l n m)] wx fun r w' => r = .returned (.int .i64 W) ∧ Below wx.heap.size wx w'))
    (KL : Hid (∀ wx, Below w.heap.size w wx → Calls Tryz.prog 7 #[.agg (vA kv y' c' x' s' l' n' m')] wx fun r w' => r = .returned (.int .i64 F) ∧ Below wx.heap.size wx w'))
    (hE : (W != 0) = true ∨ (W = 0 ∧ (F != 0) = true) ∨ (W = 0 ∧ F = 0 ∧ (ka != kv) = true)) :
    Calls Tryz.prog 4 #[.agg (vA ka y c x s l n m), .agg (vA kv y' c' x' s' l' n' m')] w fun e w' => e = .returned (.bool true) ∧ Below w.heap.size w w' := by
  go_enter Tryz.func4, Tryz.ntmps4
  go_wp2_with fail
  refine (unhide KA _ (below2 _ _ _)).mono ?_
  rintro r w1 ⟨rfl, hb⟩
  obtain ⟨XA, XV, hw⟩ := box2 hb
  clear hb KA
  have HB := hide (bv hw (vbelow_new w1 (.cells (tA 3 ka y c x s l n m) 29)))
  have YA := hide (XA.over (o := .cells (tA 3 ka y c x s l n m) 29))
  have YV := hide (XV.over (o := .cells (tA 3 ka y c x s l n m) 29))
  obtain ⟨a0, a1, a2, a3, a4, a5⟩ := XA.tell
  have la := XA.low
  clear XA XV hw
  go_wp2_with fail
  refine (unhide KW _ (unhide HB)).mono ?_
  rintro r w2 ⟨rfl, hb⟩
  have HB2 := hide (bv (unhide HB) hb)
  replace YA := hide ((unhide YA).keep hb (unhide YA).low)
  replace YV := hide ((unhide YV).keep hb (unhide YV).low)
  clear hb KW HB a0 a1 a2 a3 a4 a5 la
  rcases hE with hW | ⟨rfl, hF⟩ | ⟨rfl, rfl, hk⟩
  · go_wp2
    go_ret
    exact ⟨rfl, unhide HB2⟩
  · obtain ⟨a0, a1, a2, a3, a4, a5⟩ := (unhide YV).tell
    have la := (unhide YV).low
    go_wp2_with fail
    refine (unhide KL _ (unhide HB2)).mono ?_
    rintro r w3 ⟨rfl, hb⟩
    have HB3 := hide (bv (unhide HB2) hb)
    clear hb KL HB2 a0 a1 a2 a3 a4 a5 la
    go_wp2
    go_ret
    exact ⟨rfl, unhide HB3⟩
  · obtain ⟨a0, a1, a2, a3, a4, a5⟩ := (unhide YV).tell
    have la := (unhide YV).low
    go_wp2_with fail
    refine (unhide KL _ (unhide HB2)).mono ?_
    rintro r w3 ⟨rfl, hb⟩
    have HB3 := hide (bv (unhide HB2) hb)
    replace YA := (unhide YA).keep hb (unhide YA).low
    replace YV := (unhide YV).keep hb (unhide YV).low
    clear hb KL HB2 a0 a1 a2 a3 a4 a5 la
    have a0 := YA.tell.1
    have b0 := YV.tell.1
    clear YA YV
    go_wp2
    go_ret
    exact ⟨rfl, unhide HB3⟩

/-- how many of three so far -/
def cnt3 (b1 b2 b3 : Bool) : Nat → Nat
  | 0 => 0
  | 1 => b1.toNat
  | 2 => b1.toNat + b2.toNat
  | _ => b1.toNat + b2.toNat + b3.toNat

set_option maxRecDepth 100000 in
set_option maxHeartbeats 40000000 in
theorem order_ok (ka : Int) (y : Bool) (c x : Int) (s : ByteArray) (l : Option Addr) (n m : Nat) (y' : Bool) (c' x' : Int) (s' : ByteArray) (l' : Option Addr) (n' m' : Nat) (g3 g2 g5 g4 g6 : Nat) (b3 b2 b5 : Bool) (w : World)
    (KA : Hid (∀ wx, Below w.heap.size w wx → Calls Tryz.prog 5 #[] wx fun r w' => r = .returned (.bool true) ∧ Below wx.heap.size wx w'))
    (KW : Hid (∀ wx, Below w.heap.size w wx → Calls Tryz.prog 6 #[.agg (tA 3 ka y c x s l n m)] wx fun r w' => r = .returned (.int .i64 0) ∧ Below wx.heap.size wx w'))
    (KL : Hid (∀ wx, Below w.heap.size w wx → Calls Tryz.prog 7 #[.agg (vA ka y' c' x' s' l' n' m')] wx fun r w' => r = .returned (.int .i64 0) ∧ Below wx.heap.size wx w'))
    (K3 : Hid (∀ wx, Below w.heap.size w wx → Calls Tryz.prog 9 #[.agg (tA 3 ka y c x s l n m), .agg (vA ka y' c' x' s' l' n' m')] wx fun e w' => ∃ r, e = .returned r ∧ r = told g3 ∧ Below wx.heap.size wx w'))
    (K2 : Hid (∀ wx, Below w.heap.size w wx → Calls Tryz.prog 9 #[.agg (tA 2 ka y c x s l n m), .agg (vA ka y' c' x' s' l' n' m')] wx fun e w' => ∃ r, e = .returned r ∧ r = told g2 ∧ Below wx.heap.size wx w'))
    (K5 : Hid (∀ wx, Below w.heap.size w wx → Calls Tryz.prog 9 #[.agg (tA 5 ka y c x s l n m), .agg (vA ka y' c' x' s' l' n' m')] wx fun e w' => ∃ r, e = .returned r ∧ r = told g5 ∧ Below wx.heap.size wx w'))
    (K4 : Hid (∀ wx, Below w.heap.size w wx → Calls Tryz.prog 9 #[.agg (tA 4 ka y c x s l n m), .agg (vA ka y' c' x' s' l' n' m')] wx fun e w' => ∃ r, e = .returned r ∧ r = told g4 ∧ Below wx.heap.size wx w'))
    (K6 : Hid (∀ wx, Below w.heap.size w wx → Calls Tryz.prog 9 #[.agg (tA 6 ka y c x s l n m), .agg (vA ka y' c' x' s' l' n' m')] wx fun e w' => ∃ r, e = .returned r ∧ r = told g6 ∧ Below wx.heap.size wx w'))
    (N5 : Hid (∀ wx, Calls Tryz.prog 11 #[told g5] wx fun e w' => ∃ r, e = .returned r ∧ r = told g4 ∧ Below wx.heap.size wx w'))
    (N3 : Hid (∀ wx, Calls Tryz.prog 11 #[told g3] wx fun e w' => ∃ r, e = .returned r ∧ r = told g6 ∧ Below wx.heap.size wx w'))
    (k3 : kd g3 = 2) (k2 : kd g2 = 2) (k5 : kd g5 = 2) (y3 : yd g3 = b3) (y2 : yd g2 = b2) (y5 : yd g5 = b5) (hone : Hid (b3.toNat + b2.toNat + b5.toNat = 1)) :
    Calls Tryz.prog 4 #[.agg (vA ka y c x s l n m), .agg (vA ka y' c' x' s' l' n' m')] w fun e w' => e = .returned (.bool true) ∧ Below w.heap.size w w' := by
  go_enter Tryz.func4, Tryz.ntmps4
  go_wp2_with fail
  refine (unhide KA _ (below2 _ _ _)).mono ?_
  rintro r w1 ⟨rfl, hb⟩
  obtain ⟨XA, XV, hw⟩ := box2 hb
  clear hb KA
  have HB := hide (bv hw (vbelow_new w1 (.cells (tA 3 ka y c x s l n m) 29)))
  have YA := hide (XA.over (o := .cells (tA 3 ka y c x s l n m) 29))
  have YV := hide (XV.over (o := .cells (tA 3 ka y c x s l n m) 29))
  have YT := hide (B16.new (w := w1) (t := 29) (u := tA 3 ka y c x s l n m))
  obtain ⟨a0, a1, a2, a3, a4, a5⟩ := XA.tell
  have la := XA.low
  clear XA XV hw
  go_wp2_with fail
  refine (unhide KW _ (unhide HB)).mono ?_
  rintro r w2 ⟨rfl, hb⟩
  have HB2 := hide (bv (unhide HB) hb)
  replace YA := hide ((unhide YA).keep hb (unhide YA).low)
  replace YV := hide ((unhide YV).keep hb (unhide YV).low)
  replace YT := hide ((unhide YT).keep hb (unhide YT).low)
  clear hb KW HB a0 a1 a2 a3 a4 a5 la
  obtain ⟨a0, a1, a2, a3, a4, a5⟩ := (unhide YV).tell
  have la := (unhide YV).low
  go_wp2_with fail
  refine (unhide KL _ (unhide HB2)).mono ?_
  rintro r w3 ⟨rfl, hb⟩
  have HB3 := hide (bv (unhide HB2) hb)
  replace YA := hide ((unhide YA).keep hb (unhide YA).low)
  replace YV := hide ((unhide YV).keep hb (unhide YV).low)
  replace YT := hide ((unhide YT).keep hb (unhide YT).low)
  clear hb KL HB2 a0 a1 a2 a3 a4 a5 la
  have a0 := (unhide YA).tell.1
  have b0 := (unhide YV).tell.1
  go_wp2
  have HB4 := hide (bv (unhide HB3) (vbelow_new w3 (.cells #[.int .i64 3, .int .i64 2, .int .i64 5] 3)))
  have ZS := hide (BkA.new (w := w3) (t := 3) (u := #[.int .i64 3, .int .i64 2, .int .i64 5]))
  replace YA := hide ((unhide YA).over (o := (.cells #[.int .i64 3, .int .i64 2, .int .i64 5] 3)))
  replace YV := hide ((unhide YV).over (o := (.cells #[.int .i64 3, .int .i64 2, .int .i64 5] 3)))
  replace YT := hide ((unhide YT).over (o := (.cells #[.int .i64 3, .int .i64 2, .int .i64 5] 3)))
  clear a0 b0 HB3
  go_loopw [6, 33] (fun nn i wr => ∃ j : Nat, j ≤ 3 ∧ nn = .int .i64 ((cnt3 b3 b2 b5 j : Nat) : Int) ∧ i = .int .i64 (j : Int) ∧ Hid (Below (w3.alloc (.cells #[.int .i64 3, .int .i64 2, .int .i64 5] 3)).heap.size (w3.alloc (.cells #[.int .i64 3, .int .i64 2, .int .i64 5] 3)) wr)) (fun _ i _ => 3 - (intOf i).toNat)
  case atStart => exact ⟨0, by omega, rfl, rfl, hide (Below.refl _ _)⟩
  case round =>
    obtain ⟨j, hj, rfl, rfl, HW⟩ := hrel
    have HB := hide (bv (unhide HB4) (unhide HW))
    have XA := hide ((unhide YA).keep (unhide HW) (unhide YA).low)
    have XV := hide ((unhide YV).keep (unhide HW) (unhide YV).low)
    have XT := hide ((unhide YT).keep (unhide HW) (unhide YT).low)
    have ZR := (unhide ZS).keep (unhide HW) (unhide ZS).low
    have z0 : wr.cell? ⟨w3.heap.size, 0, none⟩ = some (.int .i64 3) := ZR.cell 0 _ rfl
    have z1' : wr.cell? ⟨w3.heap.size, 1, none⟩ = some (.int .i64 2) := ZR.cell 1 _ rfl
    have z2 : wr.cell? ⟨w3.heap.size, 2, none⟩ = some (.int .i64 5) := ZR.cell 2 _ rfl
    clear ZR YA YV YT ZS HB4
    rcases (by omega : j = 0 ∨ j = 1 ∨ j = 2 ∨ j = 3) with rfl | rfl | rfl | rfl
    · clear N3 N5 K4 K6 K2 K5 XT
      obtain ⟨a0, a1, a2, a3, a4, a5⟩ := (unhide XA).tell
      obtain ⟨d0, d1, d2, d3, d4, d5⟩ := (unhide XV).tell
      have la := (unhide XA).low
      have lv := (unhide XV).low
      clear XA XV
      go_wp2_with fail
      refine (unhide K3 _ (unhide HB)).mono ?_
      rintro e w5 ⟨r, rfl, rfl, hb⟩
      have HD := hide (bv (unhide HW) hb)
      clear hb HB HW K3 a0 a1 a2 a3 a4 a5 d0 d1 d2 d3 d4 d5 la lv z0 z1' z2
      cases b3
      · have HC := hide (bv (unhide HD) (vbelow_new w5 (.cells #[.int .i64 2, .bool false, .int .i64 0, .int .i64 0, .string ⟨#[]⟩, .slice none 0 0] 26)))
        clear HD
        go_wp2
        go_round
        case rel => exact ⟨1, by omega, by simp [cnt3], by go_num, HC⟩
        case measure => simp [intOf]
      · have HC := hide (bv (unhide HD) (vbelow_new w5 (.cells #[.int .i64 2, .bool true, .int .i64 0, .int .i64 0, .string ⟨#[]⟩, .slice none 0 0] 26)))
        clear HD
        go_wp2
        go_round
        case rel => exact ⟨1, by omega, by
          simp [cnt3]
          unfold wrap64
          omega, by go_num, HC⟩
        case measure => simp [intOf]
    · clear N3 N5 K4 K6 K3 K5 XT
      obtain ⟨a0, a1, a2, a3, a4, a5⟩ := (unhide XA).tell
      obtain ⟨d0, d1, d2, d3, d4, d5⟩ := (unhide XV).tell
      have la := (unhide XA).low
      have lv := (unhide XV).low
      clear XA XV
      go_wp2_with fail
      refine (unhide K2 _ (unhide HB)).mono ?_
      rintro e w5 ⟨r, rfl, rfl, hb⟩
      have HD := hide (bv (unhide HW) hb)
      clear hb HB HW K2 a0 a1 a2 a3 a4 a5 d0 d1 d2 d3 d4 d5 la lv z0 z1' z2
      cases b2
      · have HC := hide (bv (unhide HD) (vbelow_new w5 (.cells #[.int .i64 2, .bool false, .int .i64 0, .int .i64 0, .string ⟨#[]⟩, .slice none 0 0] 26)))
        clear HD
        go_wp2
        go_round
        case rel => exact ⟨2, by omega, by simp [cnt3], by go_num, HC⟩
        case measure => simp [intOf]
      · have HC := hide (bv (unhide HD) (vbelow_new w5 (.cells #[.int .i64 2, .bool true, .int .i64 0, .int .i64 0, .string ⟨#[]⟩, .slice none 0 0] 26)))
        clear HD
        go_wp2
        go_round
        case rel => exact ⟨2, by omega, by
          have l1 := Bool.toNat_le b3
          simp [cnt3]
          unfold wrap64
          omega, by go_num, HC⟩
        case measure => simp [intOf]
    · clear N3 N5 K4 K6 K3 K2 XT
      obtain ⟨a0, a1, a2, a3, a4, a5⟩ := (unhide XA).tell
      obtain ⟨d0, d1, d2, d3, d4, d5⟩ := (unhide XV).tell
      have la := (unhide XA).low
      have lv := (unhide XV).low
      clear XA XV
      go_wp2_with fail
      refine (unhide K5 _ (unhide HB)).mono ?_
      rintro e w5 ⟨r, rfl, rfl, hb⟩
      have HD := hide (bv (unhide HW) hb)
      clear hb HB HW K5 a0 a1 a2 a3 a4 a5 d0 d1 d2 d3 d4 d5 la lv z0 z1' z2
      cases b5
      · have HC := hide (bv (unhide HD) (vbelow_new w5 (.cells #[.int .i64 2, .bool false, .int .i64 0, .int .i64 0, .string ⟨#[]⟩, .slice none 0 0] 26)))
        clear HD
        go_wp2
        go_round
        case rel => exact ⟨3, by omega, by simp [cnt3], by go_num, HC⟩
        case measure => simp [intOf]
      · have HC := hide (bv (unhide HD) (vbelow_new w5 (.cells #[.int .i64 2, .bool true, .int .i64 0, .int .i64 0, .string ⟨#[]⟩, .slice none 0 0] 26)))
        clear HD
        go_wp2
        go_round
        case rel => exact ⟨3, by omega, by
          have l1 := Bool.toNat_le b3
          have l2 := Bool.toNat_le b2
          simp [cnt3]
          unfold wrap64
          omega, by go_num, HC⟩
        case measure => simp [intOf]
    · have e1 : ((cnt3 b3 b2 b5 3 : Nat) : Int) = 1 := by
        have := unhide hone
        simp only [cnt3]
        omega
      rw [e1]
      clear e1 z0 z1' z2 HW hone y3 y2 y5 k3 k2 k5
      go_upto_region 16 with fail
      refine frame_name ?_
      intro f0 hf0
      have s2 : G f0 2 = .pointer (some ⟨w.heap.size, 0, none⟩) := by rw [hf0]; rfl
      have s3 : G f0 3 = .pointer (some ⟨w.heap.size + 1, 0, none⟩) := by rw [hf0]; rfl
      have s5 : G f0 5 = .pointer (some ⟨w1.heap.size, 0, none⟩) := by rw [hf0]; rfl
      have s6 : G f0 6 = .int .i64 1 := by rw [hf0]; rfl
      have hsz : f0.tmps.size = 77 := by rw [hf0]; rfl
      have hdf : f0.defers = [] := by rw [hf0]
      clear hf0
      refine region_any (I := RT wr f0 77 [50, 51, 52, 53, 54, 55, 56, 57, 10, 11] [.lit (.agg (vA ka y c x s l n m)), .lit (.agg (tA 4 ka y c x s l n m)), .lit (.agg (vA ka y' c' x' s' l' n' m')), .lit (told g4), .lit (.agg (vA ka y c x s l n m)), .lit (.agg (tA 6 ka y c x s l n m)), .lit (.agg (vA ka y' c' x' s' l' n' m')), .lit (told g6), .blk 0 zT6 (tdB g4), .blk 1 zT6 (tdB g6)]) (by kernel_rfl) ?wait ?step ?done ?start
      case wait => exact ⟨by simp, by simp, by simp, by simp, by simp, by simp, by simp, by simp, by simp, by simp, by simp, by simp, trivial⟩
      case start => exact RT.start hsz hdf ((Below.refl _ _).drew)
      case step =>
        refine ⟨?_, ?_, ?_, ?_, ?_, ?_, ?_, ?_, ?_, ?_, ?_, ?_, trivial⟩
        · rintro L fa wx h hcl hL hw2
          exact rt_val h (by decide) rfl rfl rfl (by decide) rfl (run_ldX (eval_G ((h.keep (s := 2) (by decide)).trans s2)) ((unhide XA).keep h.old (unhide XA).low)) rfl
        · rintro L fa wx h hcl hL hw2
          exact rt_val h (by decide) rfl rfl rfl (by decide) rfl (run_bldT (eval_G (show G fa 50 = .agg (vA ka y c x s l n m) from (h.got 0 50 (hw2 ⟨0, .data⟩ (by simp) rfl) rfl)))) rfl
        · rintro L fa wx h hcl hL hw2
          exact rt_val h (by decide) rfl rfl rfl (by decide) rfl (run_ldX (eval_G ((h.keep (s := 3) (by decide)).trans s3)) ((unhide XV).keep h.old (unhide XV).low)) rfl
        · rintro L fa wx h hcl hL hw2
          exact rt_call h (by decide) rfl rfl rfl (by decide) rfl (run_call2 (eval_G (show G fa 51 = .agg (tA 4 ka y c x s l n m) from (h.got 1 51 (hw2 ⟨1, .data⟩ (by simp) rfl) rfl))) (eval_G (show G fa 52 = .agg (vA ka y' c' x' s' l' n' m') from (h.got 2 52 (hw2 ⟨2, .data⟩ (by simp) rfl) rfl))) callO9) rfl (unhide K4 _ (bv (unhide HB) h.old))
        · rintro L fa wx h hcl hL hw2
          exact rt_val h (by decide) rfl rfl rfl (by decide) rfl (run_ldX (eval_G ((h.keep (s := 2) (by decide)).trans s2)) ((unhide XA).keep h.old (unhide XA).low)) rfl
        · rintro L fa wx h hcl hL hw2
          exact rt_val h (by decide) rfl rfl rfl (by decide) rfl (run_bldT (eval_G (show G fa 54 = .agg (vA ka y c x s l n m) from (h.got 4 54 (hw2 ⟨4, .data⟩ (by simp) rfl) rfl)))) rfl
        · rintro L fa wx h hcl hL hw2
          exact rt_val h (by decide) rfl rfl rfl (by decide) rfl (run_ldX (eval_G ((h.keep (s := 3) (by decide)).trans s3)) ((unhide XV).keep h.old (unhide XV).low)) rfl
        · rintro L fa wx h hcl hL hw2
          exact rt_call h (by decide) rfl rfl rfl (by decide) rfl (run_call2 (eval_G (show G fa 55 = .agg (tA 6 ka y c x s l n m) from (h.got 5 55 (hw2 ⟨5, .data⟩ (by simp) rfl) rfl))) (eval_G (show G fa 56 = .agg (vA ka y' c' x' s' l' n' m') from (h.got 6 56 (hw2 ⟨6, .data⟩ (by simp) rfl) rfl))) callO9) rfl (unhide K6 _ (bv (unhide HB) h.old))
        · rintro L fa wx h hcl hL hw2
          have ns : L 10 = false := by
            cases e : L 10 with
            | false => rfl
            | true =>
              have q := hcl 10 _ rfl e ⟨8, .data⟩ (by simp) rfl
              simp only [] at q
              rw [hL] at q
              cases q
          exact rt_new h (by decide) rfl rfl rfl (by decide) rfl run_newV rfl ns
        · rintro L fa wx h hcl hL hw2
          have ns : L 11 = false := by
            cases e : L 11 with
            | false => rfl
            | true =>
              have q := hcl 11 _ rfl e ⟨9, .data⟩ (by simp) rfl
              simp only [] at q
              rw [hL] at q
              cases q
          exact rt_new h (by decide) rfl rfl rfl (by decide) rfl run_newV rfl ns
        · rintro L fa wx h hcl hL hw2
          exact rt_store h 0 8 10 rfl rfl rfl rfl hL rfl rfl rfl (hw2 ⟨8, .data⟩ (by simp) rfl) (fun p e B => store_told e (show G fa 53 = told g4 from (h.got 3 53 (hw2 ⟨3, .data⟩ (by simp) rfl) rfl)) B)
        · rintro L fa wx h hcl hL hw2
          exact rt_store h 1 9 11 rfl rfl rfl rfl hL rfl rfl rfl (hw2 ⟨9, .data⟩ (by simp) rfl) (fun p e B => store_told e (show G fa 57 = told g6 from (h.got 7 57 (hw2 ⟨7, .data⟩ (by simp) rfl) rfl)) B)
      case done =>
      rintro L f1 w6 h hall
      obtain ⟨p, s10, lp, B10⟩ := h.block 8 0 rfl rfl (hall 8 (by simp)) (hall 10 (by simp))
      obtain ⟨q, s11, lq, B11⟩ := h.block 9 1 rfl rfl (hall 9 (by simp)) (hall 11 (by simp))
      have X10 := hide B10.box
      have X11 := hide B11.box
      replace HB := hide (bv (unhide HB) h.old)
      replace XA := hide ((unhide XA).keep h.old (unhide XA).low)
      replace XV := hide ((unhide XV).keep h.old (unhide XV).low)
      replace XT := hide ((unhide XT).keep h.old (unhide XT).low)
      replace s2 := (h.keep (s := 2) (by decide)).trans s2
      replace s3 := (h.keep (s := 3) (by decide)).trans s3
      replace s5 := (h.keep (s := 5) (by decide)).trans s5
      replace s6 := (h.keep (s := 6) (by decide)).trans s6
      replace hsz := h.size
      replace hdf := h.defs
      clear h hall B10 B11 lp lq
      go_upto_region 17 with fail
      refine region_any (I := RL w6 f1 77 [58, 59, 60, 61, 62, 63, 64, 65, 66, 67, 68, 69, 70, 71, 72, 73, 74, 75, 76, 4] [.lit (.int .i64 1), .lit (.bool true), .lit (.bool true), .lit (told g4), .lit (.agg (vA ka y c x s l n m)), .lit (.agg (tA 5 ka y c x s l n m)), .lit (.agg (vA ka y' c' x' s' l' n' m')), .lit (told g5), .lit (told g4), .lit (.bool true), .lit (.bool true), .lit (.bool true), .lit (told g6), .lit (.agg (tA 3 ka y c x s l n m)), .lit (.agg (vA ka y' c' x' s' l' n' m')), .lit (told g3), .lit (told g6), .lit (.bool true), .lit (.bool true), .lit (.bool true)]) (by kernel_rfl) ?wait ?step ?done ?start
      case wait => exact ⟨by simp, by simp, by simp, by simp, by simp, by simp, by simp, by simp, by simp, by simp, by simp, by simp, by simp, by simp, by simp, by simp, by simp, by simp, by simp, by simp, trivial⟩
      case start => exact RI.start hsz hdf ((Below.refl _ _).drew)
      case step =>
        refine ⟨?_, ?_, ?_, ?_, ?_, ?_, ?_, ?_, ?_, ?_, ?_, ?_, ?_, ?_, ?_, ?_, ?_, ?_, ?_, ?_, trivial⟩
        · rintro L fa wx h hcl hL hw2
          exact rl_val h (by decide) rfl rfl rfl (by decide) rfl (run_mv (eval_G ((h.keep (s := 6) (by decide)).trans s6))) rfl
        · rintro L fa wx h hcl hL hw2
          exact rl_val h (by decide) rfl rfl rfl (by decide) rfl (run_eq1 (eval_G (show G fa 58 = .int .i64 1 from (h.got 0 58 (hw2 ⟨0, .data⟩ (by simp) rfl) rfl)))) rfl
        · rintro L fa wx h hcl hL hw2
          exact rl_val h (by decide) rfl rfl rfl (by decide) rfl (run_mv (eval_G (show G fa 59 = .bool true from (h.got 1 59 (hw2 ⟨1, .data⟩ (by simp) rfl) rfl)))) rfl
        · rintro L fa wx h hcl hL hw2
          exact rl_val h (by decide) rfl rfl rfl (by decide) ((wanted_is (j := 2) (dj := 60) (b := true) (c := true) rfl rfl (by rw [h.size]; decide) (show G fa 60 = .bool true from (h.got 2 60 (hw2 ⟨2, .guard⟩ (by simp) rfl) rfl))).trans rfl) (run_ldX (eval_G ((h.keep (s := 10) (by decide)).trans s10)) ((unhide X10).keep h.old (unhide X10).low)) rfl
        · rintro L fa wx h hcl hL hw2
          exact rl_val h (by decide) rfl rfl rfl (by decide) ((wanted_is (j := 2) (dj := 60) (b := true) (c := true) rfl rfl (by rw [h.size]; decide) (show G fa 60 = .bool true from (h.got 2 60 (hw2 ⟨2, .guard⟩ (by simp) rfl) rfl))).trans rfl) (run_ldX (eval_G ((h.keep (s := 2) (by decide)).trans s2)) ((unhide XA).keep h.old (unhide XA).low)) rfl
        · rintro L fa wx h hcl hL hw2
          exact rl_val h (by decide) rfl rfl rfl (by decide) ((wanted_is (j := 2) (dj := 60) (b := true) (c := true) rfl rfl (by rw [h.size]; decide) (show G fa 60 = .bool true from (h.got 2 60 (hw2 ⟨2, .guard⟩ (by simp) rfl) rfl))).trans rfl) (run_bldT (eval_G (show G fa 62 = .agg (vA ka y c x s l n m) from (h.got 4 62 (hw2 ⟨4, .data⟩ (by simp) rfl) rfl)))) rfl
        · rintro L fa wx h hcl hL hw2
          exact rl_val h (by decide) rfl rfl rfl (by decide) ((wanted_is (j := 2) (dj := 60) (b := true) (c := true) rfl rfl (by rw [h.size]; decide) (show G fa 60 = .bool true from (h.got 2 60 (hw2 ⟨2, .guard⟩ (by simp) rfl) rfl))).trans rfl) (run_ldX (eval_G ((h.keep (s := 3) (by decide)).trans s3)) ((unhide XV).keep h.old (unhide XV).low)) rfl
        · rintro L fa wx h hcl hL hw2
          exact rl_call (R := fun v _ => v = told g5) h (by decide) rfl rfl rfl (by decide) ((wanted_is (j := 2) (dj := 60) (b := true) (c := true) rfl rfl (by rw [h.size]; decide) (show G fa 60 = .bool true from (h.got 2 60 (hw2 ⟨2, .guard⟩ (by simp) rfl) rfl))).trans rfl) (run_call2 (eval_G (show G fa 63 = .agg (tA 5 ka y c x s l n m) from (h.got 5 63 (hw2 ⟨5, .data⟩ (by simp) rfl) rfl))) (eval_G (show G fa 64 = .agg (vA ka y' c' x' s' l' n' m') from (h.got 6 64 (hw2 ⟨6, .data⟩ (by simp) rfl) rfl))) callO9) (unhide K5 _ (bv (unhide HB) h.old)) (fun _ _ q => q)
        · rintro L fa wx h hcl hL hw2
          exact rl_call (R := fun v _ => v = told g4) h (by decide) rfl rfl rfl (by decide) ((wanted_is (j := 2) (dj := 60) (b := true) (c := true) rfl rfl (by rw [h.size]; decide) (show G fa 60 = .bool true from (h.got 2 60 (hw2 ⟨2, .guard⟩ (by simp) rfl) rfl))).trans rfl) (run_call1 (eval_G (show G fa 65 = told g5 from (h.got 7 65 (hw2 ⟨7, .data⟩ (by simp) rfl) rfl))) callO11) (unhide N5 _) (fun _ _ q => q)
        · rintro L fa wx h hcl hL hw2
          exact rl_call (R := fun v _ => v = .bool true) h (by decide) rfl rfl rfl (by decide) ((wanted_is (j := 2) (dj := 60) (b := true) (c := true) rfl rfl (by rw [h.size]; decide) (show G fa 60 = .bool true from (h.got 2 60 (hw2 ⟨2, .guard⟩ (by simp) rfl) rfl))).trans rfl) (run_call2 (eval_G (show G fa 61 = told g4 from (h.got 3 61 (hw2 ⟨3, .data⟩ (by simp) rfl) rfl))) (eval_G (show G fa 66 = told g4 from (h.got 8 66 (hw2 ⟨8, .data⟩ (by simp) rfl) rfl))) callO8) (z1 (same_told g4 _)) (fun _ _ q => q)
        · rintro L fa wx h hcl hL hw2
          exact rl_val h (by decide) rfl rfl rfl (by decide) rfl (run_pickT (eval_G (show G fa 60 = .bool true from (h.got 2 60 (hw2 ⟨2, .data⟩ (by simp) rfl) rfl))) (eval_G (show G fa 67 = .bool true from (h.got 9 67 (hw2 ⟨9, .data⟩ (by simp) rfl) rfl)))) rfl
        · rintro L fa wx h hcl hL hw2
          exact rl_val h (by decide) rfl rfl rfl (by decide) rfl (run_mv (eval_G (show G fa 68 = .bool true from (h.got 10 68 (hw2 ⟨10, .data⟩ (by simp) rfl) rfl)))) rfl
        · rintro L fa wx h hcl hL hw2
          exact rl_val h (by decide) rfl rfl rfl (by decide) ((wanted_is (j := 11) (dj := 69) (b := true) (c := true) rfl rfl (by rw [h.size]; decide) (show G fa 69 = .bool true from (h.got 11 69 (hw2 ⟨11, .guard⟩ (by simp) rfl) rfl))).trans rfl) (run_ldX (eval_G ((h.keep (s := 11) (by decide)).trans s11)) ((unhide X11).keep h.old (unhide X11).low)) rfl
        · rintro L fa wx h hcl hL hw2
          exact rl_val h (by decide) rfl rfl rfl (by decide) ((wanted_is (j := 11) (dj := 69) (b := true) (c := true) rfl rfl (by rw [h.size]; decide) (show G fa 69 = .bool true from (h.got 11 69 (hw2 ⟨11, .guard⟩ (by simp) rfl) rfl))).trans rfl) (run_ldT (eval_G ((h.keep (s := 5) (by decide)).trans s5)) ((unhide XT).keep h.old (unhide XT).low)) rfl
        · rintro L fa wx h hcl hL hw2
          exact rl_val h (by decide) rfl rfl rfl (by decide) ((wanted_is (j := 11) (dj := 69) (b := true) (c := true) rfl rfl (by rw [h.size]; decide) (show G fa 69 = .bool true from (h.got 11 69 (hw2 ⟨11, .guard⟩ (by simp) rfl) rfl))).trans rfl) (run_ldX (eval_G ((h.keep (s := 3) (by decide)).trans s3)) ((unhide XV).keep h.old (unhide XV).low)) rfl
        · rintro L fa wx h hcl hL hw2
          exact rl_call (R := fun v _ => v = told g3) h (by decide) rfl rfl rfl (by decide) ((wanted_is (j := 11) (dj := 69) (b := true) (c := true) rfl rfl (by rw [h.size]; decide) (show G fa 69 = .bool true from (h.got 11 69 (hw2 ⟨11, .guard⟩ (by simp) rfl) rfl))).trans rfl) (run_call2 (eval_G (show G fa 71 = .agg (tA 3 ka y c x s l n m) from (h.got 13 71 (hw2 ⟨13, .data⟩ (by simp) rfl) rfl))) (eval_G (show G fa 72 = .agg (vA ka y' c' x' s' l' n' m') from (h.got 14 72 (hw2 ⟨14, .data⟩ (by simp) rfl) rfl))) callO9) (unhide K3 _ (bv (unhide HB) h.old)) (fun _ _ q => q)
        · rintro L fa wx h hcl hL hw2
          exact rl_call (R := fun v _ => v = told g6) h (by decide) rfl rfl rfl (by decide) ((wanted_is (j := 11) (dj := 69) (b := true) (c := true) rfl rfl (by rw [h.size]; decide) (show G fa 69 = .bool true from (h.got 11 69 (hw2 ⟨11, .guard⟩ (by simp) rfl) rfl))).trans rfl) (run_call1 (eval_G (show G fa 73 = told g3 from (h.got 15 73 (hw2 ⟨15, .data⟩ (by simp) rfl) rfl))) callO11) (unhide N3 _) (fun _ _ q => q)
        · rintro L fa wx h hcl hL hw2
          exact rl_call (R := fun v _ => v = .bool true) h (by decide) rfl rfl rfl (by decide) ((wanted_is (j := 11) (dj := 69) (b := true) (c := true) rfl rfl (by rw [h.size]; decide) (show G fa 69 = .bool true from (h.got 11 69 (hw2 ⟨11, .guard⟩ (by simp) rfl) rfl))).trans rfl) (run_call2 (eval_G (show G fa 70 = told g6 from (h.got 12 70 (hw2 ⟨12, .data⟩ (by simp) rfl) rfl))) (eval_G (show G fa 74 = told g6 from (h.got 16 74 (hw2 ⟨16, .data⟩ (by simp) rfl) rfl))) callO8) (z1 (same_told g6 _)) (fun _ _ q => q)
        · rintro L fa wx h hcl hL hw2
          exact rl_val h (by decide) rfl rfl rfl (by decide) rfl (run_pickT (eval_G (show G fa 69 = .bool true from (h.got 11 69 (hw2 ⟨11, .data⟩ (by simp) rfl) rfl))) (eval_G (show G fa 75 = .bool true from (h.got 17 75 (hw2 ⟨17, .data⟩ (by simp) rfl) rfl)))) rfl
        · rintro L fa wx h hcl hL hw2
          exact rl_val h (by decide) rfl rfl rfl (by decide) rfl (run_asg (eval_G (show G fa 76 = .bool true from (h.got 18 76 (hw2 ⟨18, .data⟩ (by simp) rfl) rfl)))) rfl
      case done =>
      rintro L f2 w7 h hall
      have q4 : G f2 4 = .bool true := h.got 19 4 (hall 19 (by simp)) rfl
      have HZ := bv (unhide HB) h.old
      have hdf2 := h.defs
      clear h
      go_wp2
      have e4 : f2.tmps[4]?.getD undef = .bool true := by simpa [G, Array.getD_eq_getD_getElem?] using q4
      exact bodyPost_ret (v := .bool true) (by simp [results, Tryz.results4, go_sem, e4]) hdf2 ⟨rfl, HZ⟩

end Go.Proofs.YtcidbhegnnedoaaGreatDoor
