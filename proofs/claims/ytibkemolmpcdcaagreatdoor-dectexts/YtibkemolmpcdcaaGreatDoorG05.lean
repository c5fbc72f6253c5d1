/- Walks: Set and Neg of whole numbers; sum. -/
import Derived.Test.YtibkemolmpcdcaaGreatDoorG04
import Derived.Test.YtibkemolmpcdcaaGreatDoorG03
namespace Go.Proofs.YtibkemolmpcdcaaGreatDoor
open Go.RowKit

theorem callTwin (zs : Array Value) (w : World) : Sem.run Tryz.prog (callFunc 61 zs) w = .ok (.enter 61 zs) w := by simp [go_sem]
theorem own_sign (x : Int) : (if decide (x < 0) = true then -(x.natAbs : Int) else (x.natAbs : Int)) = x := by
  split
  · rename_i h; simp at h; omega
  · rename_i h; simp at h; omega
theorem opp_sign (x : Int) : (if (!decide (x < 0)) = true then -(x.natAbs : Int) else (x.natAbs : Int)) = -x := by
  split
  · rename_i h; simp at h; omega
  · rename_i h; simp at h; omega

theorem frame16 {a : Act} (hs : a.tmps.size = 16) (hd : a.defers = []) : a = { tmps := #[G a 0, G a 1, G a 2, G a 3, G a 4, G a 5, G a 6, G a 7, G a 8, G a 9, G a 10, G a 11, G a 12, G a 13, G a 14, G a 15], defers := [] } := frame_is hs hd

set_option maxRecDepth 100000 in
set_option maxHeartbeats 4000000 in
theorem iset_any (b o bx ox : Nat) (x : Int) (w : World) (hz : ZA w b o) (hx : IA w bx ox x) (lx : (Bg.wd x.natAbs).length ≤ 100000) :
    Calls Tryz.prog 55 #[.pointer (some ⟨b, o, none⟩), .pointer (some ⟨bx, ox, none⟩)] w fun e w' => e = .returned (.pointer (some ⟨b, o, none⟩)) ∧ IA w' b o (x) ∧ Out b o w w' := by
  obtain ⟨vx, x1, x2⟩ := hx.abs
  obtain ⟨px, cx, rfl, -⟩ := id x2
  have x0 := hx.neg
  have bx0 := hx.place.low
  have M : Hid (∀ wx, Below w.heap.size w wx → Calls Tryz.prog 61 #[.slice px (Bg.wd x.natAbs).length cx] wx fun e w' => ∃ v, e = .returned v ∧ WS w' v (Bg.wd x.natAbs) ∧ Below wx.heap.size wx w') := hide fun wx hb => twin_any _ x.natAbs wx (x2.below hb) lx
  have GV : Hid (∀ wx v, Below w.heap.size w wx → WS wx v (Bg.wd x.natAbs) → Calls Tryz.prog 57 #[.pointer (some ⟨b, o, none⟩), .bool (decide (x < 0)), v] wx fun e w' => ∃ v, e = .returned v ∧ v = .pointer (some ⟨b, o, none⟩) ∧ IA w' b o (x) ∧ Out b o w w') := hide fun wx v hb hv => by
    refine (give_any b o _ _ v wx (hz.below hb) hv).mono ?_
    rintro e w' ⟨rfl, hi, ho⟩
    rw [own_sign] at hi
    exact ⟨_, rfl, rfl, hi, (Out.of hb).trans ho⟩
  clear x2 hx lx
  go_enter Tryz.func55, Tryz.ntmps55
  go_upto_region 1 with fail
  refine frame_intro (fun a => G a 0 = .pointer (some ⟨b, o, none⟩) ∧ G a 1 = .pointer (some ⟨bx, ox, none⟩) ∧ a.tmps.size = 16 ∧ a.defers = []) ⟨rfl, rfl, rfl, rfl⟩ ?_
  rintro f0 ⟨s0, s1, hsz, hdf⟩
  refine region_any (I := RO w f0 16 [5, 6, 7, 8, 9, 10, 11, 12, 13, 14, 15, 4] 10 (fun w' => IA w' b o (x) ∧ Out b o w w') [.lit (.pointer (some ⟨b, o, none⟩)), .lit (.pointer (some ⟨bx, ox, none⟩)), .lit (.pointer (some ⟨bx, ox, none⟩)), .lit (.pointer (some ⟨bx, ox, none⟩)), .lit (.bool (decide (x < 0))), .lit (.pointer (some ⟨bx, ox, none⟩)), .lit (.pointer (some ⟨bx, ox, none⟩)), .lit (.pointer (some ⟨bx, ox + 1, none⟩)), .lit (.slice px (Bg.wd x.natAbs).length cx), dws x.natAbs, .lit (.pointer (some ⟨b, o, none⟩)), .lit (.pointer (some ⟨b, o, none⟩))]) (by kernel_rfl) ?wait ?step ?done ?start
  case wait => exact ⟨by simp, by simp, by simp, by simp, by simp, by simp, by simp, by simp, by simp, by simp, by simp, by simp, trivial⟩
  case start => exact RO.start hsz hdf ((Below.refl _ _).drew)
  case step =>
    refine ⟨?_, ?_, ?_, ?_, ?_, ?_, ?_, ?_, ?_, ?_, ?_, ?_, trivial⟩
    · rintro L fa wx h hcl hL hw2
      exact ro_val h (by decide) rfl rfl rfl (by decide) (by decide) rfl (run_mv (eval_G ((h.keep (s := 0) (by decide)).trans s0))) rfl
    · rintro L fa wx h hcl hL hw2
      exact ro_val h (by decide) rfl rfl rfl (by decide) (by decide) rfl (run_mv (eval_G ((h.keep (s := 1) (by decide)).trans s1))) rfl
    · rintro L fa wx h hcl hL hw2
      exact ro_val h (by decide) rfl rfl rfl (by decide) (by decide) rfl (run_nil (eval_G (show G fa 6 = .pointer (some ⟨bx, ox, none⟩) from okx_lit (h.got 1 6 (hw2 ⟨1, .data⟩ (by simp) rfl) rfl) rfl))) rfl
    · rintro L fa wx h hcl hL hw2
      exact ro_val h (by decide) rfl rfl rfl (by decide) (by decide) rfl (run_fld0 (eval_G (show G fa 7 = .pointer (some ⟨bx, ox, none⟩) from okx_lit (h.got 2 7 (hw2 ⟨2, .data⟩ (by simp) rfl) rfl) rfl))) rfl
    · rintro L fa wx h hcl hL hw2
      exact ro_val h (by decide) rfl rfl rfl (by decide) (by decide) rfl (run_ldB (eval_G (show G fa 8 = .pointer (some ⟨bx, ox, none⟩) from okx_lit (h.got 3 8 (hw2 ⟨3, .data⟩ (by simp) rfl) rfl) rfl)) (((h.old (Bool.eq_false_iff.2 fun hq => by have hz := (hcl 10 _ rfl hq ⟨4, .data⟩ (by simp) rfl); rw [hL] at hz; cases hz)).cell (p := ⟨bx, ox, none⟩) bx0).trans x0)) rfl
    · rintro L fa wx h hcl hL hw2
      exact ro_val h (by decide) rfl rfl rfl (by decide) (by decide) rfl (run_mv (eval_G ((h.keep (s := 1) (by decide)).trans s1))) rfl
    · rintro L fa wx h hcl hL hw2
      exact ro_val h (by decide) rfl rfl rfl (by decide) (by decide) rfl (run_nil (eval_G (show G fa 10 = .pointer (some ⟨bx, ox, none⟩) from okx_lit (h.got 5 10 (hw2 ⟨5, .data⟩ (by simp) rfl) rfl) rfl))) rfl
    · rintro L fa wx h hcl hL hw2
      exact ro_val h (by decide) rfl rfl rfl (by decide) (by decide) rfl (run_fld1 (eval_G (show G fa 11 = .pointer (some ⟨bx, ox, none⟩) from okx_lit (h.got 6 11 (hw2 ⟨6, .data⟩ (by simp) rfl) rfl) rfl))) rfl
    · rintro L fa wx h hcl hL hw2
      exact ro_val h (by decide) rfl rfl rfl (by decide) (by decide) rfl (run_ldW (eval_G (show G fa 12 = .pointer (some ⟨bx, ox + 1, none⟩) from okx_lit (h.got 7 12 (hw2 ⟨7, .data⟩ (by simp) rfl) rfl) rfl)) (((h.old (Bool.eq_false_iff.2 fun hq => by have hz := (hcl 9 _ rfl (hcl 10 _ rfl hq ⟨9, .data⟩ (by simp) rfl) ⟨8, .data⟩ (by simp) rfl); rw [hL] at hz; cases hz)).cell (p := ⟨bx, ox + 1, none⟩) bx0).trans x1)) rfl
    · rintro L fa wx h hcl hL hw2
      exact ro_call (R := fun v w' => WS w' v (Bg.wd x.natAbs)) h (by decide) rfl rfl rfl (by decide) (by decide) (Bool.eq_false_iff.2 fun hq => by have hz := (hcl 10 _ rfl hq ⟨9, .data⟩ (by simp) rfl); rw [hL] at hz; cases hz) rfl (run_call1 (eval_G (show G fa 13 = .slice px (Bg.wd x.natAbs).length cx from okx_lit (h.got 8 13 (hw2 ⟨8, .data⟩ (by simp) rfl) rfl) rfl)) callTwin) (unhide M wx (h.old (Bool.eq_false_iff.2 fun hq => by have hz := (hcl 10 _ rfl hq ⟨9, .data⟩ (by simp) rfl); rw [hL] at hz; cases hz))) (fun _ _ q => q)
    · rintro L fa wx h hcl hL hw2
      have m2 := okx_mem (h.got 9 14 (hw2 ⟨9, .data⟩ (by simp) rfl) rfl) hL
      exact ro_last (R := fun v w' => v = .pointer (some ⟨b, o, none⟩) ∧ IA w' b o (x) ∧ Out b o w w') h (by decide) rfl rfl rfl (by decide) hL rfl (run_call3 (eval_G (show G fa 5 = .pointer (some ⟨b, o, none⟩) from okx_lit (h.got 0 5 (hw2 ⟨0, .data⟩ (by simp) rfl) rfl) rfl)) (eval_G (show G fa 9 = .bool (decide (x < 0)) from okx_lit (h.got 4 9 (hw2 ⟨4, .data⟩ (by simp) rfl) rfl) rfl)) rfl callGive) (unhide GV wx _ (h.old hL) m2) (fun _ _ q => ⟨q.1, q.2⟩)
    · rintro L fa wx h hcl hL hw2
      exact ro_val h (by decide) rfl rfl rfl (by decide) (by decide) rfl (run_asg (eval_G (show G fa 15 = .pointer (some ⟨b, o, none⟩) from okx_lit (h.got 10 15 (hw2 ⟨10, .data⟩ (by simp) rfl) rfl) rfl))) rfl
  case done =>
    rintro L f1 w3 h hall
    have q6 : G f1 4 = .pointer (some ⟨b, o, none⟩) := okx_lit (h.got 11 4 (hall 11 (by simp)) rfl) rfl
    have HF := hide (h.fin (hall 10 (by simp)))
    rw [frame16 h.size h.defs, q6]
    clear h hall q6
    go_wp2
    go_ret
    exact ⟨rfl, unhide HF⟩

theorem frame17 {a : Act} (hs : a.tmps.size = 17) (hd : a.defers = []) : a = { tmps := #[G a 0, G a 1, G a 2, G a 3, G a 4, G a 5, G a 6, G a 7, G a 8, G a 9, G a 10, G a 11, G a 12, G a 13, G a 14, G a 15, G a 16], defers := [] } := frame_is hs hd

set_option maxRecDepth 100000 in
set_option maxHeartbeats 4000000 in
theorem ineg_any (b o bx ox : Nat) (x : Int) (w : World) (hz : ZA w b o) (hx : IA w bx ox x) (lx : (Bg.wd x.natAbs).length ≤ 100000) :
    Calls Tryz.prog 36 #[.pointer (some ⟨b, o, none⟩), .pointer (some ⟨bx, ox, none⟩)] w fun e w' => e = .returned (.pointer (some ⟨b, o, none⟩)) ∧ IA w' b o (-x) ∧ Out b o w w' := by
  obtain ⟨vx, x1, x2⟩ := hx.abs
  obtain ⟨px, cx, rfl, -⟩ := id x2
  have x0 := hx.neg
  have bx0 := hx.place.low
  have M : Hid (∀ wx, Below w.heap.size w wx → Calls Tryz.prog 61 #[.slice px (Bg.wd x.natAbs).length cx] wx fun e w' => ∃ v, e = .returned v ∧ WS w' v (Bg.wd x.natAbs) ∧ Below wx.heap.size wx w') := hide fun wx hb => twin_any _ x.natAbs wx (x2.below hb) lx
  have GV : Hid (∀ wx v, Below w.heap.size w wx → WS wx v (Bg.wd x.natAbs) → Calls Tryz.prog 57 #[.pointer (some ⟨b, o, none⟩), .bool (!decide (x < 0)), v] wx fun e w' => ∃ v, e = .returned v ∧ v = .pointer (some ⟨b, o, none⟩) ∧ IA w' b o (-x) ∧ Out b o w w') := hide fun wx v hb hv => by
    refine (give_any b o _ _ v wx (hz.below hb) hv).mono ?_
    rintro e w' ⟨rfl, hi, ho⟩
    rw [opp_sign] at hi
    exact ⟨_, rfl, rfl, hi, (Out.of hb).trans ho⟩
  clear x2 hx lx
  go_enter Tryz.func36, Tryz.ntmps36
  go_upto_region 1 with fail
  refine frame_intro (fun a => G a 0 = .pointer (some ⟨b, o, none⟩) ∧ G a 1 = .pointer (some ⟨bx, ox, none⟩) ∧ a.tmps.size = 17 ∧ a.defers = []) ⟨rfl, rfl, rfl, rfl⟩ ?_
  rintro f0 ⟨s0, s1, hsz, hdf⟩
  refine region_any (I := RO w f0 17 [5, 6, 7, 8, 9, 10, 11, 12, 13, 14, 15, 16, 4] 11 (fun w' => IA w' b o (-x) ∧ Out b o w w') [.lit (.pointer (some ⟨b, o, none⟩)), .lit (.pointer (some ⟨bx, ox, none⟩)), .lit (.pointer (some ⟨bx, ox, none⟩)), .lit (.pointer (some ⟨bx, ox, none⟩)), .lit (.bool (decide (x < 0))), .lit (.bool (!(decide (x < 0)))), .lit (.pointer (some ⟨bx, ox, none⟩)), .lit (.pointer (some ⟨bx, ox, none⟩)), .lit (.pointer (some ⟨bx, ox + 1, none⟩)), .lit (.slice px (Bg.wd x.natAbs).length cx), dws x.natAbs, .lit (.pointer (some ⟨b, o, none⟩)), .lit (.pointer (some ⟨b, o, none⟩))]) (by kernel_rfl) ?wait ?step ?done ?start
  case wait => exact ⟨by simp, by simp, by simp, by simp, by simp, by simp, by simp, by simp, by simp, by simp, by simp, by simp, by simp, trivial⟩
  case start => exact RO.start hsz hdf ((Below.refl _ _).drew)
  case step =>
    refine ⟨?_, ?_, ?_, ?_, ?_, ?_, ?_, ?_, ?_, ?_, ?_, ?_, ?_, trivial⟩
    · rintro L fa wx h hcl hL hw2
      exact ro_val h (by decide) rfl rfl rfl (by decide) (by decide) rfl (run_mv (eval_G ((h.keep (s := 0) (by decide)).trans s0))) rfl
    · rintro L fa wx h hcl hL hw2
      exact ro_val h (by decide) rfl rfl rfl (by decide) (by decide) rfl (run_mv (eval_G ((h.keep (s := 1) (by decide)).trans s1))) rfl
    · rintro L fa wx h hcl hL hw2
      exact ro_val h (by decide) rfl rfl rfl (by decide) (by decide) rfl (run_nil (eval_G (show G fa 6 = .pointer (some ⟨bx, ox, none⟩) from okx_lit (h.got 1 6 (hw2 ⟨1, .data⟩ (by simp) rfl) rfl) rfl))) rfl
    · rintro L fa wx h hcl hL hw2
      exact ro_val h (by decide) rfl rfl rfl (by decide) (by decide) rfl (run_fld0 (eval_G (show G fa 7 = .pointer (some ⟨bx, ox, none⟩) from okx_lit (h.got 2 7 (hw2 ⟨2, .data⟩ (by simp) rfl) rfl) rfl))) rfl
    · rintro L fa wx h hcl hL hw2
      exact ro_val h (by decide) rfl rfl rfl (by decide) (by decide) rfl (run_ldB (eval_G (show G fa 8 = .pointer (some ⟨bx, ox, none⟩) from okx_lit (h.got 3 8 (hw2 ⟨3, .data⟩ (by simp) rfl) rfl) rfl)) (((h.old (Bool.eq_false_iff.2 fun hq => by have hz := (hcl 5 _ rfl (hcl 11 _ rfl hq ⟨5, .data⟩ (by simp) rfl) ⟨4, .data⟩ (by simp) rfl); rw [hL] at hz; cases hz)).cell (p := ⟨bx, ox, none⟩) bx0).trans x0)) rfl
    · rintro L fa wx h hcl hL hw2
      exact ro_val h (by decide) rfl rfl rfl (by decide) (by decide) rfl (run_not (eval_G (show G fa 9 = .bool (decide (x < 0)) from okx_lit (h.got 4 9 (hw2 ⟨4, .data⟩ (by simp) rfl) rfl) rfl))) rfl
    · rintro L fa wx h hcl hL hw2
      exact ro_val h (by decide) rfl rfl rfl (by decide) (by decide) rfl (run_mv (eval_G ((h.keep (s := 1) (by decide)).trans s1))) rfl
    · rintro L fa wx h hcl hL hw2
      exact ro_val h (by decide) rfl rfl rfl (by decide) (by decide) rfl (run_nil (eval_G (show G fa 11 = .pointer (some ⟨bx, ox, none⟩) from okx_lit (h.got 6 11 (hw2 ⟨6, .data⟩ (by simp) rfl) rfl) rfl))) rfl
    · rintro L fa wx h hcl hL hw2
      exact ro_val h (by decide) rfl rfl rfl (by decide) (by decide) rfl (run_fld1 (eval_G (show G fa 12 = .pointer (some ⟨bx, ox, none⟩) from okx_lit (h.got 7 12 (hw2 ⟨7, .data⟩ (by simp) rfl) rfl) rfl))) rfl
    · rintro L fa wx h hcl hL hw2
      exact ro_val h (by decide) rfl rfl rfl (by decide) (by decide) rfl (run_ldW (eval_G (show G fa 13 = .pointer (some ⟨bx, ox + 1, none⟩) from okx_lit (h.got 8 13 (hw2 ⟨8, .data⟩ (by simp) rfl) rfl) rfl)) (((h.old (Bool.eq_false_iff.2 fun hq => by have hz := (hcl 10 _ rfl (hcl 11 _ rfl hq ⟨10, .data⟩ (by simp) rfl) ⟨9, .data⟩ (by simp) rfl); rw [hL] at hz; cases hz)).cell (p := ⟨bx, ox + 1, none⟩) bx0).trans x1)) rfl
    · rintro L fa wx h hcl hL hw2
      exact ro_call (R := fun v w' => WS w' v (Bg.wd x.natAbs)) h (by decide) rfl rfl rfl (by decide) (by decide) (Bool.eq_false_iff.2 fun hq => by have hz := (hcl 11 _ rfl hq ⟨10, .data⟩ (by simp) rfl); rw [hL] at hz; cases hz) rfl (run_call1 (eval_G (show G fa 14 = .slice px (Bg.wd x.natAbs).length cx from okx_lit (h.got 9 14 (hw2 ⟨9, .data⟩ (by simp) rfl) rfl) rfl)) callTwin) (unhide M wx (h.old (Bool.eq_false_iff.2 fun hq => by have hz := (hcl 11 _ rfl hq ⟨10, .data⟩ (by simp) rfl); rw [hL] at hz; cases hz))) (fun _ _ q => q)
    · rintro L fa wx h hcl hL hw2
      have m2 := okx_mem (h.got 10 15 (hw2 ⟨10, .data⟩ (by simp) rfl) rfl) hL
      exact ro_last (R := fun v w' => v = .pointer (some ⟨b, o, none⟩) ∧ IA w' b o (-x) ∧ Out b o w w') h (by decide) rfl rfl rfl (by decide) hL rfl (run_call3 (eval_G (show G fa 5 = .pointer (some ⟨b, o, none⟩) from okx_lit (h.got 0 5 (hw2 ⟨0, .data⟩ (by simp) rfl) rfl) rfl)) (eval_G (show G fa 10 = .bool (!(decide (x < 0))) from okx_lit (h.got 5 10 (hw2 ⟨5, .data⟩ (by simp) rfl) rfl) rfl)) rfl callGive) (unhide GV wx _ (h.old hL) m2) (fun _ _ q => ⟨q.1, q.2⟩)
    · rintro L fa wx h hcl hL hw2
      exact ro_val h (by decide) rfl rfl rfl (by decide) (by decide) rfl (run_asg (eval_G (show G fa 16 = .pointer (some ⟨b, o, none⟩) from okx_lit (h.got 11 16 (hw2 ⟨11, .data⟩ (by simp) rfl) rfl) rfl))) rfl
  case done =>
    rintro L f1 w3 h hall
    have q6 : G f1 4 = .pointer (some ⟨b, o, none⟩) := okx_lit (h.got 12 4 (hall 12 (by simp)) rfl) rfl
    have HF := hide (h.fin (hall 11 (by simp)))
    rw [frame17 h.size h.defs, q6]
    clear h hall q6
    go_wp2
    go_ret
    exact ⟨rfl, unhide HF⟩

/-- the sign and the size of a sum -/
def sumS (xn yn : Bool) (a b : Nat) : Bool := if xn = yn then xn else if b ≤ a then xn else yn
def sumN (xn yn : Bool) (a b : Nat) : Nat := if xn = yn then a + b else if b ≤ a then a - b else b - a
theorem sum_is (xn yn : Bool) (a b : Nat) : (if sumS xn yn a b = true then -(sumN xn yn a b : Int) else (sumN xn yn a b : Int)) = (if xn = true then -(a : Int) else a) + (if yn = true then -(b : Int) else b) := by
  unfold sumS sumN
  by_cases h : b ≤ a
  · cases xn <;> cases yn <;> simp [h] <;> omega
  · cases xn <;> cases yn <;> simp [h] <;> omega

set_option maxHeartbeats 2000000 in
theorem sum_any (xn yn : Bool) (u v : Value) (a b : Nat) (w : World) (hu : WS w u (Bg.wd a)) (hv : WS w v (Bg.wd b)) (ha : (Bg.wd a).length ≤ 100000) (hb : (Bg.wd b).length ≤ 100000) :
    Calls Tryz.prog 60 #[.bool xn, u, .bool yn, v] w fun e w' => ∃ y, e = .returned (.tuple #[.bool (sumS xn yn a b), y]) ∧ WS w' y (Bg.wd (sumN xn yn a b)) ∧ Below w.heap.size w w' := by
  obtain ⟨p, cap, rfl, -⟩ := id hu
  obtain ⟨q, cap2, rfl, -⟩ := id hv
  have AD := hide (add_any _ _ a b w hu hv ha hb)
  have CM := hide (cmp_any _ _ a b w hu hv)
  have S1 := hide (fun (wx : World) (hx : Below w.heap.size w wx) (h : b ≤ a) => sub_any _ _ a b wx (hu.below hx) (hv.below hx) ha h)
  have S2 := hide (fun (wx : World) (hx : Below w.heap.size w wx) (h : a ≤ b) => sub_any _ _ b a wx (hv.below hx) (hu.below hx) hb h)
  clear hu hv ha hb
  go_enter Tryz.func60, Tryz.ntmps60
  by_cases he : xn = yn
  · subst he
    have h1 : (xn == xn) = true := by simp
    have hs : sumS xn xn a b = xn := by unfold sumS; rw [if_pos rfl]
    have hn : sumN xn xn a b = a + b := by unfold sumN; rw [if_pos rfl]
    have HS := hide hs
    have HN := hide hn
    clear hs hn
    go_wp2_with fail
    refine (unhide AD).mono ?_
    rintro e w1 ⟨y, rfl, hy, hb1⟩
    have HY := hide hy
    have HB1 := hide hb1
    clear hy hb1
    go_wp2
    refine bodyPost_ret (v := .tuple #[.bool xn, y]) (by simp [results, Tryz.results60, go_sem]) rfl ?_
    rw [unhide HS, unhide HN]
    exact ⟨_, rfl, unhide HY, unhide HB1⟩
  · have h1 : (xn == yn) = false := by simpa using he
    by_cases hab : b ≤ a
    · have hs : sumS xn yn a b = xn := by unfold sumS; rw [if_neg he, if_pos hab]
      have hn : sumN xn yn a b = a - b := by unfold sumN; rw [if_neg he, if_pos hab]
      have HS := hide hs
      have HN := hide hn
      have hcm : ¬ Bg.cmpN a b < 0 := by
        rcases Nat.eq_or_lt_of_le hab with e | e
        · rw [Bg.cmpN_eq e.symm]; omega
        · rw [Bg.cmpN_gt e]; omega
      have hcm2 : 0 ≤ Bg.cmpN a b := by omega
      clear hs hn
      generalize Bg.cmpN a b = cm at *
      go_wp2_with fail
      refine (unhide CM).mono ?_
      rintro e w1 ⟨rfl, hb1⟩
      have HB1 := hide hb1
      clear hb1
      go_wp2_with fail
      refine (unhide S1 _ (unhide HB1) hab).mono ?_
      rintro e w2 ⟨y, rfl, hy, hb2⟩
      have HY := hide hy
      have HB2 := hide hb2
      clear hy hb2
      go_wp2
      refine bodyPost_ret (v := .tuple #[.bool xn, y]) (by simp [results, Tryz.results60, go_sem]) rfl ?_
      rw [unhide HS, unhide HN]
      exact ⟨_, rfl, unhide HY, below_via (unhide HB1) (unhide HB2)⟩
    · have hs : sumS xn yn a b = yn := by unfold sumS; rw [if_neg he, if_neg hab]
      have hn : sumN xn yn a b = b - a := by unfold sumN; rw [if_neg he, if_neg hab]
      have HS := hide hs
      have HN := hide hn
      have hcm : ¬ 0 ≤ Bg.cmpN a b := by rw [Bg.cmpN_lt (by omega)]; omega
      clear hs hn
      generalize Bg.cmpN a b = cm at *
      go_wp2_with fail
      refine (unhide CM).mono ?_
      rintro e w1 ⟨rfl, hb1⟩
      have HB1 := hide hb1
      clear hb1
      go_wp2_with fail
      refine (unhide S2 _ (unhide HB1) (by omega)).mono ?_
      rintro e w2 ⟨y, rfl, hy, hb2⟩
      have HY := hide hy
      have HB2 := hide hb2
      clear hy hb2
      go_wp2
      refine bodyPost_ret (v := .tuple #[.bool yn, y]) (by simp [results, Tryz.results60, go_sem]) rfl ?_
      rw [unhide HS, unhide HN]
      exact ⟨_, rfl, unhide HY, below_via (unhide HB1) (unhide HB2)⟩
end Go.Proofs.YtibkemolmpcdcaaGreatDoor

/- Walks: Add and Sub of whole numbers. -/
namespace Go.Proofs.YtibkemolmpcdcaaGreatDoor
open Go.RowKit

theorem callSum (zs : Array Value) (w : World) : Sem.run Tryz.prog (callFunc 60 zs) w = .ok (.enter 60 zs) w := by simp [go_sem]
def dtup (s : Bool) (n : Nat) : Ds := .mem (fun v w => ∃ z, v = .tuple #[.bool s, z] ∧ WS w z (Bg.wd n)) (fun _ _ _ hb h => by
  obtain ⟨z, e, hz⟩ := h
  exact ⟨z, e, hz.below hb⟩)
section
variable {w0 w : World} {a0 a : Act} {N gi : Nat} {D : List Nat} {Fin : World → Prop} {l : List Ds} {L : Nat → Bool} {ops : Array Oper} {Q : Exit → Act → World → Prop} {i : Nat} {o : Oper}
theorem ro_mem {d : Nat} (h : RO w0 a0 N D gi Fin l L a w) (nd : D.Nodup) (hi : ops[i]? = some o) (hd : o.dst = some d) (hDi : D[i]? = some d) (hN : d < N) (ne : gi ≠ i) (hg : L gi = false) (hw : Region.wanted o (yielded ops a.tmps) = true) {v : Value} (r : (execOp a.eval o).run Tryz.prog w = .ok (.value v) w) (ok : OkL l i v w) :
    wpOp Tryz.prog ops Q i (fun a' w' => RO w0 a0 N D gi Fin l (fun j => j == i || L j) a' w') a w :=
  o_val hi hd hw (by rw [h.size]; exact hN) r fun _ U hf => h.step nd i hDi ne U hf (.inl rfl) (by unfold OkX; rw [hg]; exact ok)
variable {d : Option Nat} {t : TypeId} {p : String} {af : Array Edge} {g : Option (Nat × Bool)}
theorem run_ext0 {x : Operand} {u v : Value} (h : a.eval x = .tuple #[u, v]) : (execOp a.eval ⟨d, .extract x 0, t, p, af, g⟩).run Tryz.prog w = .ok (.value u) w := by
  generalize a.eval = E at h ⊢
  simp [go_sem, h]
theorem run_ext1 {x : Operand} {u v : Value} (h : a.eval x = .tuple #[u, v]) : (execOp a.eval ⟨d, .extract x 1, t, p, af, g⟩).run Tryz.prog w = .ok (.value v) w := by
  generalize a.eval = E at h ⊢
  simp [go_sem, h]
theorem run_call4 {n : Nat} {x y z s : Operand} {vx vy vz vs : Value} {ts : Array TypeId} (hx : a.eval x = vx) (hy : a.eval y = vy) (hz : a.eval z = vz) (hs : a.eval s = vs) (hf : ∀ (zs : Array Value) (w : World), Sem.run Tryz.prog (callFunc n zs) w = .ok (.enter n zs) w) :
    (execOp a.eval ⟨d, .call { callee := .value (.func n), args := #[x, y, z, s], argTypes := ts }, t, p, af, g⟩).run Tryz.prog w = .ok (.enter n #[vx, vy, vz, vs]) w := by
  have e1 : a.eval (.func n) = .func (.func n) #[] #[] := rfl
  generalize a.eval = E at hx hy hz hs e1 ⊢
  simp [go_sem, hx, hy, hz, hs, e1, hf]
end

theorem frame28 {a : Act} (hs : a.tmps.size = 28) (hd : a.defers = []) : a = { tmps := #[G a 0, G a 1, G a 2, G a 3, G a 4, G a 5, G a 6, G a 7, G a 8, G a 9, G a 10, G a 11, G a 12, G a 13, G a 14, G a 15, G a 16, G a 17, G a 18, G a 19, G a 20, G a 21, G a 22, G a 23, G a 24, G a 25, G a 26, G a 27], defers := [] } := frame_is hs hd

set_option maxRecDepth 100000 in
set_option maxHeartbeats 4000000 in
theorem iadd_any (b o bx ox b2 oy : Nat) (x y : Int) (w : World) (hz : ZA w b o) (hx : IA w bx ox x) (hy : IA w b2 oy y) (lx : (Bg.wd x.natAbs).length ≤ 100000) (ly : (Bg.wd y.natAbs).length ≤ 100000) :
    Calls Tryz.prog 34 #[.pointer (some ⟨b, o, none⟩), .pointer (some ⟨bx, ox, none⟩), .pointer (some ⟨b2, oy, none⟩)] w fun e w' => e = .returned (.pointer (some ⟨b, o, none⟩)) ∧ IA w' b o (x + y) ∧ Out b o w w' := by
  obtain ⟨vx, x1, x2⟩ := hx.abs
  obtain ⟨vy, y1, y2⟩ := hy.abs
  obtain ⟨px, cx, rfl, -⟩ := id x2
  obtain ⟨py, cy, rfl, -⟩ := id y2
  have x0 := hx.neg
  have y0 := hy.neg
  have bx0 := hx.place.low
  have by0 := hy.place.low
  have M : Hid (∀ wx, Below w.heap.size w wx → Calls Tryz.prog 60 #[.bool (decide (x < 0)), .slice px (Bg.wd x.natAbs).length cx, .bool (decide (y < 0)), .slice py (Bg.wd y.natAbs).length cy] wx fun e w' => ∃ v, e = .returned v ∧ (∃ z, v = .tuple #[.bool (sumS (decide (x < 0)) (decide (y < 0)) x.natAbs y.natAbs), z] ∧ WS w' z (Bg.wd (sumN (decide (x < 0)) (decide (y < 0)) x.natAbs y.natAbs))) ∧ Below wx.heap.size wx w') := hide fun wx hb => by
    refine (sum_any (decide (x < 0)) (decide (y < 0)) _ _ x.natAbs y.natAbs wx (x2.below hb) (y2.below hb) lx ly).mono ?_
    rintro e w' ⟨z, rfl, h1, h2⟩
    exact ⟨_, rfl, ⟨z, rfl, h1⟩, h2⟩
  have GV : Hid (∀ wx v, Below w.heap.size w wx → WS wx v (Bg.wd (sumN (decide (x < 0)) (decide (y < 0)) x.natAbs y.natAbs)) → Calls Tryz.prog 57 #[.pointer (some ⟨b, o, none⟩), .bool (sumS (decide (x < 0)) (decide (y < 0)) x.natAbs y.natAbs), v] wx fun e w' => ∃ v, e = .returned v ∧ v = .pointer (some ⟨b, o, none⟩) ∧ IA w' b o (x + y) ∧ Out b o w w') := hide fun wx v hb hv => by
    refine (give_any b o _ _ v wx (hz.below hb) hv).mono ?_
    rintro e w' ⟨rfl, hi, ho⟩
    rw [sum_is, own_sign, own_sign] at hi
    exact ⟨_, rfl, rfl, hi, (Out.of hb).trans ho⟩
  clear x2 y2 hx hy lx ly
  go_enter Tryz.func34, Tryz.ntmps34
  go_upto_region 1 with fail
  refine frame_intro (fun a => G a 0 = .pointer (some ⟨b, o, none⟩) ∧ G a 1 = .pointer (some ⟨bx, ox, none⟩) ∧ G a 2 = .pointer (some ⟨b2, oy, none⟩) ∧ a.tmps.size = 28 ∧ a.defers = []) ⟨rfl, rfl, rfl, rfl, rfl⟩ ?_
  rintro f0 ⟨s0, s1, s2, hsz, hdf⟩
  refine region_any (I := RO w f0 28 [7, 8, 9, 10, 11, 12, 13, 14, 15, 16, 17, 18, 19, 20, 21, 22, 23, 24, 25, 26, 27, 6] 20 (fun w' => IA w' b o (x + y) ∧ Out b o w w') [.lit (.pointer (some ⟨b, o, none⟩)), .lit (.pointer (some ⟨bx, ox, none⟩)), .lit (.pointer (some ⟨bx, ox, none⟩)), .lit (.pointer (some ⟨bx, ox, none⟩)), .lit (.bool (decide (x < 0))), .lit (.pointer (some ⟨bx, ox, none⟩)), .lit (.pointer (some ⟨bx, ox, none⟩)), .lit (.pointer (some ⟨bx, ox + 1, none⟩)), .lit (.slice px (Bg.wd x.natAbs).length cx), .lit (.pointer (some ⟨b2, oy, none⟩)), .lit (.pointer (some ⟨b2, oy, none⟩)), .lit (.pointer (some ⟨b2, oy, none⟩)), .lit (.bool (decide (y < 0))), .lit (.pointer (some ⟨b2, oy, none⟩)), .lit (.pointer (some ⟨b2, oy, none⟩)), .lit (.pointer (some ⟨b2, oy + 1, none⟩)), .lit (.slice py (Bg.wd y.natAbs).length cy), dtup (sumS (decide (x < 0)) (decide (y < 0)) x.natAbs y.natAbs) (sumN (decide (x < 0)) (decide (y < 0)) x.natAbs y.natAbs), .lit (.bool (sumS (decide (x < 0)) (decide (y < 0)) x.natAbs y.natAbs)), dws (sumN (decide (x < 0)) (decide (y < 0)) x.natAbs y.natAbs), .lit (.pointer (some ⟨b, o, none⟩)), .lit (.pointer (some ⟨b, o, none⟩))]) (by kernel_rfl) ?wait ?step ?done ?start
  case wait => exact ⟨by simp, by simp, by simp, by simp, by simp, by simp, by simp, by simp, by simp, by simp, by simp, by simp, by simp, by simp, by simp, by simp, by simp, by simp, by simp, by simp, by simp, by simp, trivial⟩
  case start => exact RO.start hsz hdf ((Below.refl _ _).drew)
  case step =>
    refine ⟨?_, ?_, ?_, ?_, ?_, ?_, ?_, ?_, ?_, ?_, ?_, ?_, ?_, ?_, ?_, ?_, ?_, ?_, ?_, ?_, ?_, ?_, trivial⟩
    · rintro L fa wx h hcl hL hw2
      exact ro_val h (by decide) rfl rfl rfl (by decide) (by decide) rfl (run_mv (eval_G ((h.keep (s := 0) (by decide)).trans s0))) rfl
    · rintro L fa wx h hcl hL hw2
      exact ro_val h (by decide) rfl rfl rfl (by decide) (by decide) rfl (run_mv (eval_G ((h.keep (s := 1) (by decide)).trans s1))) rfl
    · rintro L fa wx h hcl hL hw2
      exact ro_val h (by decide) rfl rfl rfl (by decide) (by decide) rfl (run_nil (eval_G (show G fa 8 = .pointer (some ⟨bx, ox, none⟩) from okx_lit (h.got 1 8 (hw2 ⟨1, .data⟩ (by simp) rfl) rfl) rfl))) rfl
    · rintro L fa wx h hcl hL hw2
      exact ro_val h (by decide) rfl rfl rfl (by decide) (by decide) rfl (run_fld0 (eval_G (show G fa 9 = .pointer (some ⟨bx, ox, none⟩) from okx_lit (h.got 2 9 (hw2 ⟨2, .data⟩ (by simp) rfl) rfl) rfl))) rfl
    · rintro L fa wx h hcl hL hw2
      exact ro_val h (by decide) rfl rfl rfl (by decide) (by decide) rfl (run_ldB (eval_G (show G fa 10 = .pointer (some ⟨bx, ox, none⟩) from okx_lit (h.got 3 10 (hw2 ⟨3, .data⟩ (by simp) rfl) rfl) rfl)) (((h.old (Bool.eq_false_iff.2 fun hq => by have hz := (hcl 17 _ rfl (hcl 18 _ rfl (hcl 20 _ rfl hq ⟨18, .data⟩ (by simp) rfl) ⟨17, .data⟩ (by simp) rfl) ⟨4, .data⟩ (by simp) rfl); rw [hL] at hz; cases hz)).cell (p := ⟨bx, ox, none⟩) bx0).trans x0)) rfl
    · rintro L fa wx h hcl hL hw2
      exact ro_val h (by decide) rfl rfl rfl (by decide) (by decide) rfl (run_mv (eval_G ((h.keep (s := 1) (by decide)).trans s1))) rfl
    · rintro L fa wx h hcl hL hw2
      exact ro_val h (by decide) rfl rfl rfl (by decide) (by decide) rfl (run_nil (eval_G (show G fa 12 = .pointer (some ⟨bx, ox, none⟩) from okx_lit (h.got 5 12 (hw2 ⟨5, .data⟩ (by simp) rfl) rfl) rfl))) rfl
    · rintro L fa wx h hcl hL hw2
      exact ro_val h (by decide) rfl rfl rfl (by decide) (by decide) rfl (run_fld1 (eval_G (show G fa 13 = .pointer (some ⟨bx, ox, none⟩) from okx_lit (h.got 6 13 (hw2 ⟨6, .data⟩ (by simp) rfl) rfl) rfl))) rfl
    · rintro L fa wx h hcl hL hw2
      exact ro_val h (by decide) rfl rfl rfl (by decide) (by decide) rfl (run_ldW (eval_G (show G fa 14 = .pointer (some ⟨bx, ox + 1, none⟩) from okx_lit (h.got 7 14 (hw2 ⟨7, .data⟩ (by simp) rfl) rfl) rfl)) (((h.old (Bool.eq_false_iff.2 fun hq => by have hz := (hcl 17 _ rfl (hcl 18 _ rfl (hcl 20 _ rfl hq ⟨18, .data⟩ (by simp) rfl) ⟨17, .data⟩ (by simp) rfl) ⟨8, .data⟩ (by simp) rfl); rw [hL] at hz; cases hz)).cell (p := ⟨bx, ox + 1, none⟩) bx0).trans x1)) rfl
    · rintro L fa wx h hcl hL hw2
      exact ro_val h (by decide) rfl rfl rfl (by decide) (by decide) rfl (run_mv (eval_G ((h.keep (s := 2) (by decide)).trans s2))) rfl
    · rintro L fa wx h hcl hL hw2
      exact ro_val h (by decide) rfl rfl rfl (by decide) (by decide) rfl (run_nil (eval_G (show G fa 16 = .pointer (some ⟨b2, oy, none⟩) from okx_lit (h.got 9 16 (hw2 ⟨9, .data⟩ (by simp) rfl) rfl) rfl))) rfl
    · rintro L fa wx h hcl hL hw2
      exact ro_val h (by decide) rfl rfl rfl (by decide) (by decide) rfl (run_fld0 (eval_G (show G fa 17 = .pointer (some ⟨b2, oy, none⟩) from okx_lit (h.got 10 17 (hw2 ⟨10, .data⟩ (by simp) rfl) rfl) rfl))) rfl
    · rintro L fa wx h hcl hL hw2
      exact ro_val h (by decide) rfl rfl rfl (by decide) (by decide) rfl (run_ldB (eval_G (show G fa 18 = .pointer (some ⟨b2, oy, none⟩) from okx_lit (h.got 11 18 (hw2 ⟨11, .data⟩ (by simp) rfl) rfl) rfl)) (((h.old (Bool.eq_false_iff.2 fun hq => by have hz := (hcl 17 _ rfl (hcl 18 _ rfl (hcl 20 _ rfl hq ⟨18, .data⟩ (by simp) rfl) ⟨17, .data⟩ (by simp) rfl) ⟨12, .data⟩ (by simp) rfl); rw [hL] at hz; cases hz)).cell (p := ⟨b2, oy, none⟩) by0).trans y0)) rfl
    · rintro L fa wx h hcl hL hw2
      exact ro_val h (by decide) rfl rfl rfl (by decide) (by decide) rfl (run_mv (eval_G ((h.keep (s := 2) (by decide)).trans s2))) rfl
    · rintro L fa wx h hcl hL hw2
      exact ro_val h (by decide) rfl rfl rfl (by decide) (by decide) rfl (run_nil (eval_G (show G fa 20 = .pointer (some ⟨b2, oy, none⟩) from okx_lit (h.got 13 20 (hw2 ⟨13, .data⟩ (by simp) rfl) rfl) rfl))) rfl
    · rintro L fa wx h hcl hL hw2
      exact ro_val h (by decide) rfl rfl rfl (by decide) (by decide) rfl (run_fld1 (eval_G (show G fa 21 = .pointer (some ⟨b2, oy, none⟩) from okx_lit (h.got 14 21 (hw2 ⟨14, .data⟩ (by simp) rfl) rfl) rfl))) rfl
    · rintro L fa wx h hcl hL hw2
      exact ro_val h (by decide) rfl rfl rfl (by decide) (by decide) rfl (run_ldW (eval_G (show G fa 22 = .pointer (some ⟨b2, oy + 1, none⟩) from okx_lit (h.got 15 22 (hw2 ⟨15, .data⟩ (by simp) rfl) rfl) rfl)) (((h.old (Bool.eq_false_iff.2 fun hq => by have hz := (hcl 17 _ rfl (hcl 18 _ rfl (hcl 20 _ rfl hq ⟨18, .data⟩ (by simp) rfl) ⟨17, .data⟩ (by simp) rfl) ⟨16, .data⟩ (by simp) rfl); rw [hL] at hz; cases hz)).cell (p := ⟨b2, oy + 1, none⟩) by0).trans y1)) rfl
    · rintro L fa wx h hcl hL hw2
      exact ro_call (R := fun v w' => ∃ z, v = .tuple #[.bool (sumS (decide (x < 0)) (decide (y < 0)) x.natAbs y.natAbs), z] ∧ WS w' z (Bg.wd (sumN (decide (x < 0)) (decide (y < 0)) x.natAbs y.natAbs))) h (by decide) rfl rfl rfl (by decide) (by decide) (Bool.eq_false_iff.2 fun hq => by have hz := (hcl 18 _ rfl (hcl 20 _ rfl hq ⟨18, .data⟩ (by simp) rfl) ⟨17, .data⟩ (by simp) rfl); rw [hL] at hz; cases hz) rfl (run_call4 (eval_G (show G fa 11 = .bool (decide (x < 0)) from okx_lit (h.got 4 11 (hw2 ⟨4, .data⟩ (by simp) rfl) rfl) rfl)) (eval_G (show G fa 15 = .slice px (Bg.wd x.natAbs).length cx from okx_lit (h.got 8 15 (hw2 ⟨8, .data⟩ (by simp) rfl) rfl) rfl)) (eval_G (show G fa 19 = .bool (decide (y < 0)) from okx_lit (h.got 12 19 (hw2 ⟨12, .data⟩ (by simp) rfl) rfl) rfl)) (eval_G (show G fa 23 = .slice py (Bg.wd y.natAbs).length cy from okx_lit (h.got 16 23 (hw2 ⟨16, .data⟩ (by simp) rfl) rfl) rfl)) callSum) (unhide M wx (h.old (Bool.eq_false_iff.2 fun hq => by have hz := (hcl 18 _ rfl (hcl 20 _ rfl hq ⟨18, .data⟩ (by simp) rfl) ⟨17, .data⟩ (by simp) rfl); rw [hL] at hz; cases hz))) (fun _ _ q => q)
    · rintro L fa wx h hcl hL hw2
      obtain ⟨y, ey, hy⟩ := okx_mem (h.got 17 24 (hw2 ⟨17, .data⟩ (by simp) rfl) rfl) (Bool.eq_false_iff.2 fun hq => by have hz := (hcl 20 _ rfl hq ⟨18, .data⟩ (by simp) rfl); rw [hL] at hz; cases hz)
      exact ro_val h (by decide) rfl rfl rfl (by decide) (by decide) rfl (run_ext0 (eval_G ey)) rfl
    · rintro L fa wx h hcl hL hw2
      obtain ⟨y, ey, hy⟩ := okx_mem (h.got 17 24 (hw2 ⟨17, .data⟩ (by simp) rfl) rfl) (Bool.eq_false_iff.2 fun hq => by have hz := (hcl 20 _ rfl hq ⟨19, .data⟩ (by simp) rfl); rw [hL] at hz; cases hz)
      exact ro_mem h (by decide) rfl rfl rfl (by decide) (by decide) (Bool.eq_false_iff.2 fun hq => by have hz := (hcl 20 _ rfl hq ⟨19, .data⟩ (by simp) rfl); rw [hL] at hz; cases hz) rfl (run_ext1 (eval_G ey)) hy
    · rintro L fa wx h hcl hL hw2
      have m2 := okx_mem (h.got 19 26 (hw2 ⟨19, .data⟩ (by simp) rfl) rfl) hL
      exact ro_last (R := fun v w' => v = .pointer (some ⟨b, o, none⟩) ∧ IA w' b o (x + y) ∧ Out b o w w') h (by decide) rfl rfl rfl (by decide) hL rfl (run_call3 (eval_G (show G fa 7 = .pointer (some ⟨b, o, none⟩) from okx_lit (h.got 0 7 (hw2 ⟨0, .data⟩ (by simp) rfl) rfl) rfl)) (eval_G (show G fa 25 = .bool (sumS (decide (x < 0)) (decide (y < 0)) x.natAbs y.natAbs) from okx_lit (h.got 18 25 (hw2 ⟨18, .data⟩ (by simp) rfl) rfl) rfl)) rfl callGive) (unhide GV wx _ (h.old hL) m2) (fun _ _ q => ⟨q.1, q.2⟩)
    · rintro L fa wx h hcl hL hw2
      exact ro_val h (by decide) rfl rfl rfl (by decide) (by decide) rfl (run_asg (eval_G (show G fa 27 = .pointer (some ⟨b, o, none⟩) from okx_lit (h.got 20 27 (hw2 ⟨20, .data⟩ (by simp) rfl) rfl) rfl))) rfl
  case done =>
    rintro L f1 w3 h hall
    have q6 : G f1 6 = .pointer (some ⟨b, o, none⟩) := okx_lit (h.got 21 6 (hall 21 (by simp)) rfl) rfl
    have HF := hide (h.fin (hall 20 (by simp)))
    rw [frame28 h.size h.defs, q6]
    clear h hall q6
    go_wp2
    go_ret
    exact ⟨rfl, unhide HF⟩

theorem frame29 {a : Act} (hs : a.tmps.size = 29) (hd : a.defers = []) : a = { tmps := #[G a 0, G a 1, G a 2, G a 3, G a 4, G a 5, G a 6, G a 7, G a 8, G a 9, G a 10, G a 11, G a 12, G a 13, G a 14, G a 15, G a 16, G a 17, G a 18, G a 19, G a 20, G a 21, G a 22, G a 23, G a 24, G a 25, G a 26, G a 27, G a 28], defers := [] } := frame_is hs hd

set_option maxRecDepth 100000 in
set_option maxHeartbeats 4000000 in
theorem isub_any (b o bx ox b2 oy : Nat) (x y : Int) (w : World) (hz : ZA w b o) (hx : IA w bx ox x) (hy : IA w b2 oy y) (lx : (Bg.wd x.natAbs).length ≤ 100000) (ly : (Bg.wd y.natAbs).length ≤ 100000) :
    Calls Tryz.prog 91 #[.pointer (some ⟨b, o, none⟩), .pointer (some ⟨bx, ox, none⟩), .pointer (some ⟨b2, oy, none⟩)] w fun e w' => e = .returned (.pointer (some ⟨b, o, none⟩)) ∧ IA w' b o (x + -y) ∧ Out b o w w' := by
  obtain ⟨vx, x1, x2⟩ := hx.abs
  obtain ⟨vy, y1, y2⟩ := hy.abs
  obtain ⟨px, cx, rfl, -⟩ := id x2
  obtain ⟨py, cy, rfl, -⟩ := id y2
  have x0 := hx.neg
  have y0 := hy.neg
  have bx0 := hx.place.low
  have by0 := hy.place.low
  have M : Hid (∀ wx, Below w.heap.size w wx → Calls Tryz.prog 60 #[.bool (decide (x < 0)), .slice px (Bg.wd x.natAbs).length cx, .bool (!decide (y < 0)), .slice py (Bg.wd y.natAbs).length cy] wx fun e w' => ∃ v, e = .returned v ∧ (∃ z, v = .tuple #[.bool (sumS (decide (x < 0)) (!decide (y < 0)) x.natAbs y.natAbs), z] ∧ WS w' z (Bg.wd (sumN (decide (x < 0)) (!decide (y < 0)) x.natAbs y.natAbs))) ∧ Below wx.heap.size wx w') := hide fun wx hb => by
    refine (sum_any (decide (x < 0)) (!decide (y < 0)) _ _ x.natAbs y.natAbs wx (x2.below hb) (y2.below hb) lx ly).mono ?_
    rintro e w' ⟨z, rfl, h1, h2⟩
    exact ⟨_, rfl, ⟨z, rfl, h1⟩, h2⟩
  have GV : Hid (∀ wx v, Below w.heap.size w wx → WS wx v (Bg.wd (sumN (decide (x < 0)) (!decide (y < 0)) x.natAbs y.natAbs)) → Calls Tryz.prog 57 #[.pointer (some ⟨b, o, none⟩), .bool (sumS (decide (x < 0)) (!decide (y < 0)) x.natAbs y.natAbs), v] wx fun e w' => ∃ v, e = .returned v ∧ v = .pointer (some ⟨b, o, none⟩) ∧ IA w' b o (x + -y) ∧ Out b o w w') := hide fun wx v hb hv => by
    refine (give_any b o _ _ v wx (hz.below hb) hv).mono ?_
    rintro e w' ⟨rfl, hi, ho⟩
    rw [sum_is, own_sign, opp_sign] at hi
    exact ⟨_, rfl, rfl, hi, (Out.of hb).trans ho⟩
  clear x2 y2 hx hy lx ly
  go_enter Tryz.func91, Tryz.ntmps91
  go_upto_region 1 with fail
  refine frame_intro (fun a => G a 0 = .pointer (some ⟨b, o, none⟩) ∧ G a 1 = .pointer (some ⟨bx, ox, none⟩) ∧ G a 2 = .pointer (some ⟨b2, oy, none⟩) ∧ a.tmps.size = 29 ∧ a.defers = []) ⟨rfl, rfl, rfl, rfl, rfl⟩ ?_
  rintro f0 ⟨s0, s1, s2, hsz, hdf⟩
  refine region_any (I := RO w f0 29 [7, 8, 9, 10, 11, 12, 13, 14, 15, 16, 17, 18, 19, 20, 21, 22, 23, 24, 25, 26, 27, 28, 6] 21 (fun w' => IA w' b o (x + -y) ∧ Out b o w w') [.lit (.pointer (some ⟨b, o, none⟩)), .lit (.pointer (some ⟨bx, ox, none⟩)), .lit (.pointer (some ⟨bx, ox, none⟩)), .lit (.pointer (some ⟨bx, ox, none⟩)), .lit (.bool (decide (x < 0))), .lit (.pointer (some ⟨bx, ox, none⟩)), .lit (.pointer (some ⟨bx, ox, none⟩)), .lit (.pointer (some ⟨bx, ox + 1, none⟩)), .lit (.slice px (Bg.wd x.natAbs).length cx), .lit (.pointer (some ⟨b2, oy, none⟩)), .lit (.pointer (some ⟨b2, oy, none⟩)), .lit (.pointer (some ⟨b2, oy, none⟩)), .lit (.bool (decide (y < 0))), .lit (.bool (!(decide (y < 0)))), .lit (.pointer (some ⟨b2, oy, none⟩)), .lit (.pointer (some ⟨b2, oy, none⟩)), .lit (.pointer (some ⟨b2, oy + 1, none⟩)), .lit (.slice py (Bg.wd y.natAbs).length cy), dtup (sumS (decide (x < 0)) (!decide (y < 0)) x.natAbs y.natAbs) (sumN (decide (x < 0)) (!decide (y < 0)) x.natAbs y.natAbs), .lit (.bool (sumS (decide (x < 0)) (!decide (y < 0)) x.natAbs y.natAbs)), dws (sumN (decide (x < 0)) (!decide (y < 0)) x.natAbs y.natAbs), .lit (.pointer (some ⟨b, o, none⟩)), .lit (.pointer (some ⟨b, o, none⟩))]) (by kernel_rfl) ?wait ?step ?done ?start
  case wait => exact ⟨by simp, by simp, by simp, by simp, by simp, by simp, by simp, by simp, by simp, by simp, by simp, by simp, by simp, by simp, by simp, by simp, by simp, by simp, by simp, by simp, by simp, by simp, by simp, trivial⟩
  case start => exact RO.start hsz hdf ((Below.refl _ _).drew)
  case step =>
    refine ⟨?_, ?_, ?_, ?_, ?_, ?_, ?_, ?_, ?_, ?_, ?_, ?_, ?_, ?_, ?_, ?_, ?_, ?_, ?_, ?_, ?_, ?_, ?_, trivial⟩
    · rintro L fa wx h hcl hL hw2
      exact ro_val h (by decide) rfl rfl rfl (by decide) (by decide) rfl (run_mv (eval_G ((h.keep (s := 0) (by decide)).trans s0))) rfl
    · rintro L fa wx h hcl hL hw2
      exact ro_val h (by decide) rfl rfl rfl (by decide) (by decide) rfl (run_mv (eval_G ((h.keep (s := 1) (by decide)).trans s1))) rfl
    · rintro L fa wx h hcl hL hw2
      exact ro_val h (by decide) rfl rfl rfl (by decide) (by decide) rfl (run_nil (eval_G (show G fa 8 = .pointer (some ⟨bx, ox, none⟩) from okx_lit (h.got 1 8 (hw2 ⟨1, .data⟩ (by simp) rfl) rfl) rfl))) rfl
    · rintro L fa wx h hcl hL hw2
      exact ro_val h (by decide) rfl rfl rfl (by decide) (by decide) rfl (run_fld0 (eval_G (show G fa 9 = .pointer (some ⟨bx, ox, none⟩) from okx_lit (h.got 2 9 (hw2 ⟨2, .data⟩ (by simp) rfl) rfl) rfl))) rfl
    · rintro L fa wx h hcl hL hw2
      exact ro_val h (by decide) rfl rfl rfl (by decide) (by decide) rfl (run_ldB (eval_G (show G fa 10 = .pointer (some ⟨bx, ox, none⟩) from okx_lit (h.got 3 10 (hw2 ⟨3, .data⟩ (by simp) rfl) rfl) rfl)) (((h.old (Bool.eq_false_iff.2 fun hq => by have hz := (hcl 18 _ rfl (hcl 19 _ rfl (hcl 21 _ rfl hq ⟨19, .data⟩ (by simp) rfl) ⟨18, .data⟩ (by simp) rfl) ⟨4, .data⟩ (by simp) rfl); rw [hL] at hz; cases hz)).cell (p := ⟨bx, ox, none⟩) bx0).trans x0)) rfl
    · rintro L fa wx h hcl hL hw2
      exact ro_val h (by decide) rfl rfl rfl (by decide) (by decide) rfl (run_mv (eval_G ((h.keep (s := 1) (by decide)).trans s1))) rfl
    · rintro L fa wx h hcl hL hw2
      exact ro_val h (by decide) rfl rfl rfl (by decide) (by decide) rfl (run_nil (eval_G (show G fa 12 = .pointer (some ⟨bx, ox, none⟩) from okx_lit (h.got 5 12 (hw2 ⟨5, .data⟩ (by simp) rfl) rfl) rfl))) rfl
    · rintro L fa wx h hcl hL hw2
      exact ro_val h (by decide) rfl rfl rfl (by decide) (by decide) rfl (run_fld1 (eval_G (show G fa 13 = .pointer (some ⟨bx, ox, none⟩) from okx_lit (h.got 6 13 (hw2 ⟨6, .data⟩ (by simp) rfl) rfl) rfl))) rfl
    · rintro L fa wx h hcl hL hw2
      exact ro_val h (by decide) rfl rfl rfl (by decide) (by decide) rfl (run_ldW (eval_G (show G fa 14 = .pointer (some ⟨bx, ox + 1, none⟩) from okx_lit (h.got 7 14 (hw2 ⟨7, .data⟩ (by simp) rfl) rfl) rfl)) (((h.old (Bool.eq_false_iff.2 fun hq => by have hz := (hcl 18 _ rfl (hcl 19 _ rfl (hcl 21 _ rfl hq ⟨19, .data⟩ (by simp) rfl) ⟨18, .data⟩ (by simp) rfl) ⟨8, .data⟩ (by simp) rfl); rw [hL] at hz; cases hz)).cell (p := ⟨bx, ox + 1, none⟩) bx0).trans x1)) rfl
    · rintro L fa wx h hcl hL hw2
      exact ro_val h (by decide) rfl rfl rfl (by decide) (by decide) rfl (run_mv (eval_G ((h.keep (s := 2) (by decide)).trans s2))) rfl
    · rintro L fa wx h hcl hL hw2
      exact ro_val h (by decide) rfl rfl rfl (by decide) (by decide) rfl (run_nil (eval_G (show G fa 16 = .pointer (some ⟨b2, oy, none⟩) from okx_lit (h.got 9 16 (hw2 ⟨9, .data⟩ (by simp) rfl) rfl) rfl))) rfl
    · rintro L fa wx h hcl hL hw2
      exact ro_val h (by decide) rfl rfl rfl (by decide) (by decide) rfl (run_fld0 (eval_G (show G fa 17 = .pointer (some ⟨b2, oy, none⟩) from okx_lit (h.got 10 17 (hw2 ⟨10, .data⟩ (by simp) rfl) rfl) rfl))) rfl
    · rintro L fa wx h hcl hL hw2
      exact ro_val h (by decide) rfl rfl rfl (by decide) (by decide) rfl (run_ldB (eval_G (show G fa 18 = .pointer (some ⟨b2, oy, none⟩) from okx_lit (h.got 11 18 (hw2 ⟨11, .data⟩ (by simp) rfl) rfl) rfl)) (((h.old (Bool.eq_false_iff.2 fun hq => by have hz := (hcl 13 _ rfl (hcl 18 _ rfl (hcl 19 _ rfl (hcl 21 _ rfl hq ⟨19, .data⟩ (by simp) rfl) ⟨18, .data⟩ (by simp) rfl) ⟨13, .data⟩ (by simp) rfl) ⟨12, .data⟩ (by simp) rfl); rw [hL] at hz; cases hz)).cell (p := ⟨b2, oy, none⟩) by0).trans y0)) rfl
    · rintro L fa wx h hcl hL hw2
      exact ro_val h (by decide) rfl rfl rfl (by decide) (by decide) rfl (run_not (eval_G (show G fa 19 = .bool (decide (y < 0)) from okx_lit (h.got 12 19 (hw2 ⟨12, .data⟩ (by simp) rfl) rfl) rfl))) rfl
    · rintro L fa wx h hcl hL hw2
      exact ro_val h (by decide) rfl rfl rfl (by decide) (by decide) rfl (run_mv (eval_G ((h.keep (s := 2) (by decide)).trans s2))) rfl
    · rintro L fa wx h hcl hL hw2
      exact ro_val h (by decide) rfl rfl rfl (by decide) (by decide) rfl (run_nil (eval_G (show G fa 21 = .pointer (some ⟨b2, oy, none⟩) from okx_lit (h.got 14 21 (hw2 ⟨14, .data⟩ (by simp) rfl) rfl) rfl))) rfl
    · rintro L fa wx h hcl hL hw2
      exact ro_val h (by decide) rfl rfl rfl (by decide) (by decide) rfl (run_fld1 (eval_G (show G fa 22 = .pointer (some ⟨b2, oy, none⟩) from okx_lit (h.got 15 22 (hw2 ⟨15, .data⟩ (by simp) rfl) rfl) rfl))) rfl
    · rintro L fa wx h hcl hL hw2
      exact ro_val h (by decide) rfl rfl rfl (by decide) (by decide) rfl (run_ldW (eval_G (show G fa 23 = .pointer (some ⟨b2, oy + 1, none⟩) from okx_lit (h.got 16 23 (hw2 ⟨16, .data⟩ (by simp) rfl) rfl) rfl)) (((h.old (Bool.eq_false_iff.2 fun hq => by have hz := (hcl 18 _ rfl (hcl 19 _ rfl (hcl 21 _ rfl hq ⟨19, .data⟩ (by simp) rfl) ⟨18, .data⟩ (by simp) rfl) ⟨17, .data⟩ (by simp) rfl); rw [hL] at hz; cases hz)).cell (p := ⟨b2, oy + 1, none⟩) by0).trans y1)) rfl
    · rintro L fa wx h hcl hL hw2
      exact ro_call (R := fun v w' => ∃ z, v = .tuple #[.bool (sumS (decide (x < 0)) (!decide (y < 0)) x.natAbs y.natAbs), z] ∧ WS w' z (Bg.wd (sumN (decide (x < 0)) (!decide (y < 0)) x.natAbs y.natAbs))) h (by decide) rfl rfl rfl (by decide) (by decide) (Bool.eq_false_iff.2 fun hq => by have hz := (hcl 19 _ rfl (hcl 21 _ rfl hq ⟨19, .data⟩ (by simp) rfl) ⟨18, .data⟩ (by simp) rfl); rw [hL] at hz; cases hz) rfl (run_call4 (eval_G (show G fa 11 = .bool (decide (x < 0)) from okx_lit (h.got 4 11 (hw2 ⟨4, .data⟩ (by simp) rfl) rfl) rfl)) (eval_G (show G fa 15 = .slice px (Bg.wd x.natAbs).length cx from okx_lit (h.got 8 15 (hw2 ⟨8, .data⟩ (by simp) rfl) rfl) rfl)) (eval_G (show G fa 20 = .bool (!(decide (y < 0))) from okx_lit (h.got 13 20 (hw2 ⟨13, .data⟩ (by simp) rfl) rfl) rfl)) (eval_G (show G fa 24 = .slice py (Bg.wd y.natAbs).length cy from okx_lit (h.got 17 24 (hw2 ⟨17, .data⟩ (by simp) rfl) rfl) rfl)) callSum) (unhide M wx (h.old (Bool.eq_false_iff.2 fun hq => by have hz := (hcl 19 _ rfl (hcl 21 _ rfl hq ⟨19, .data⟩ (by simp) rfl) ⟨18, .data⟩ (by simp) rfl); rw [hL] at hz; cases hz))) (fun _ _ q => q)
    · rintro L fa wx h hcl hL hw2
      obtain ⟨y, ey, hy⟩ := okx_mem (h.got 18 25 (hw2 ⟨18, .data⟩ (by simp) rfl) rfl) (Bool.eq_false_iff.2 fun hq => by have hz := (hcl 21 _ rfl hq ⟨19, .data⟩ (by simp) rfl); rw [hL] at hz; cases hz)
      exact ro_val h (by decide) rfl rfl rfl (by decide) (by decide) rfl (run_ext0 (eval_G ey)) rfl
    · rintro L fa wx h hcl hL hw2
      obtain ⟨y, ey, hy⟩ := okx_mem (h.got 18 25 (hw2 ⟨18, .data⟩ (by simp) rfl) rfl) (Bool.eq_false_iff.2 fun hq => by have hz := (hcl 21 _ rfl hq ⟨20, .data⟩ (by simp) rfl); rw [hL] at hz; cases hz)
      exact ro_mem h (by decide) rfl rfl rfl (by decide) (by decide) (Bool.eq_false_iff.2 fun hq => by have hz := (hcl 21 _ rfl hq ⟨20, .data⟩ (by simp) rfl); rw [hL] at hz; cases hz) rfl (run_ext1 (eval_G ey)) hy
    · rintro L fa wx h hcl hL hw2
      have m2 := okx_mem (h.got 20 27 (hw2 ⟨20, .data⟩ (by simp) rfl) rfl) hL
      exact ro_last (R := fun v w' => v = .pointer (some ⟨b, o, none⟩) ∧ IA w' b o (x + -y) ∧ Out b o w w') h (by decide) rfl rfl rfl (by decide) hL rfl (run_call3 (eval_G (show G fa 7 = .pointer (some ⟨b, o, none⟩) from okx_lit (h.got 0 7 (hw2 ⟨0, .data⟩ (by simp) rfl) rfl) rfl)) (eval_G (show G fa 26 = .bool (sumS (decide (x < 0)) (!decide (y < 0)) x.natAbs y.natAbs) from okx_lit (h.got 19 26 (hw2 ⟨19, .data⟩ (by simp) rfl) rfl) rfl)) rfl callGive) (unhide GV wx _ (h.old hL) m2) (fun _ _ q => ⟨q.1, q.2⟩)
    · rintro L fa wx h hcl hL hw2
      exact ro_val h (by decide) rfl rfl rfl (by decide) (by decide) rfl (run_asg (eval_G (show G fa 28 = .pointer (some ⟨b, o, none⟩) from okx_lit (h.got 21 28 (hw2 ⟨21, .data⟩ (by simp) rfl) rfl) rfl))) rfl
  case done =>
    rintro L f1 w3 h hall
    have q6 : G f1 6 = .pointer (some ⟨b, o, none⟩) := okx_lit (h.got 22 6 (hall 22 (by simp)) rfl) rfl
    have HF := hide (h.fin (hall 21 (by simp)))
    rw [frame29 h.size h.defs, q6]
    clear h hall q6
    go_wp2
    go_ret
    exact ⟨rfl, unhide HF⟩
end Go.Proofs.YtibkemolmpcdcaaGreatDoor

/- Walks: Sign, Cmp, CmpAbs of whole numbers. -/
namespace Go.Proofs.YtibkemolmpcdcaaGreatDoor
open Go.RowKit

def sgnZ (x : Int) : Int := if x < 0 then -1 else if x = 0 then 0 else 1

set_option maxHeartbeats 1000000 in
theorem isign_any (bx ox : Nat) (x : Int) (w : World) (hx : IA w bx ox x) :
    Calls Tryz.prog 40 #[.pointer (some ⟨bx, ox, none⟩)] w fun e w' => e = .returned (.int .i64 (sgnZ x)) ∧ w' = w := by
  obtain ⟨vx, x1, x2⟩ := hx.abs
  obtain ⟨px, cx, rfl, -⟩ := id x2
  have x0 := hx.neg
  have HL : Hid ((Bg.wd x.natAbs).length = 0 ↔ x = 0) := hide (by rw [List.length_eq_zero_iff, Bg.wd_nil]; omega)
  obtain ⟨n, hn⟩ : ∃ n, n = (Bg.wd x.natAbs).length := ⟨_, rfl⟩
  rw [← hn] at HL x1
  clear hn x2 hx
  go_enter Tryz.func40, Tryz.ntmps40
  by_cases h0 : n = 0
  · have HS : Hid (sgnZ x = 0) := hide (by rw [(unhide HL).1 h0]; rfl)
    subst h0
    go_wp2
    go_ret
    rw [unhide HS]
    exact ⟨rfl, rfl⟩
  · have g1 : ((n : Int) == 0) = false := by rw [beq_eq_false_iff_ne]; omega
    have hx0 : x ≠ 0 := fun e => h0 ((unhide HL).2 e)
    by_cases hxn : x < 0
    · have HS : Hid (sgnZ x = -1) := hide (by unfold sgnZ; rw [if_pos hxn])
      rw [decide_eq_true hxn] at x0
      go_wp2
      go_ret
      rw [unhide HS]
      exact ⟨rfl, rfl⟩
    · have HS : Hid (sgnZ x = 1) := hide (by unfold sgnZ; rw [if_neg hxn, if_neg hx0])
      rw [decide_eq_false hxn] at x0
      go_wp2
      go_ret
      rw [unhide HS]
      exact ⟨rfl, rfl⟩

set_option maxHeartbeats 2000000 in
theorem icmpAbs_any (bx ox b2 oy : Nat) (x y : Int) (w : World) (hx : IA w bx ox x) (hy : IA w b2 oy y) :
    Calls Tryz.prog 39 #[.pointer (some ⟨bx, ox, none⟩), .pointer (some ⟨b2, oy, none⟩)] w fun e w' => e = .returned (.int .i64 (Bg.cmpN x.natAbs y.natAbs)) ∧ Below w.heap.size w w' := by
  obtain ⟨vx, x1, x2⟩ := hx.abs
  obtain ⟨vy, y1, y2⟩ := hy.abs
  obtain ⟨px, cx, rfl, -⟩ := id x2
  obtain ⟨py, cy, rfl, -⟩ := id y2
  have CM := hide (fun (wx : World) (hb : Below w.heap.size w wx) => cmp_any _ _ x.natAbs y.natAbs wx (x2.below hb) (y2.below hb))
  generalize Bg.cmpN x.natAbs y.natAbs = cm at *
  clear x2 y2 hx hy
  go_enter Tryz.func39, Tryz.ntmps39
  go_wp2_with fail
  go_region_with (
    go_at_call 67
    (refine (unhide CM _ ?_).mono ?_; · exact (by repeat (first | exact Below.refl _ _ | apply Below.drew)))
    rintro e w1 ⟨rfl, hb1⟩
    replace hb1 : Below w.heap.size w w1 := below_via (by repeat (first | exact Below.refl _ _ | apply Below.drew)) hb1)
  all_goals
    have HB := hide hb1
    clear hb1
    go_wp2
    go_ret
    exact ⟨rfl, by repeat (first | exact unhide HB | apply Below.drew)⟩
end Go.Proofs.YtibkemolmpcdcaaGreatDoor

/- Walks: small. -/
namespace Go.Proofs.YtibkemolmpcdcaaGreatDoor
open Go.RowKit

set_option maxHeartbeats 2000000 in
theorem small_go (p : Option Addr) (cap d : Nat) (us : List Nat) (w : World) (hu : WS w (.slice p us.length cap) us) (l1 : us.length ≤ 1000000) (hd0 : 0 < d) (hd : d < 4294967296) :
    Calls Tryz.prog 103 #[.slice p us.length cap, .int .u32 (d : Int)] w fun e w' => ∃ u, e = .returned (.tuple #[u, .int .u32 ((Bg.val us % d : Nat) : Int)]) ∧ WS w' u (Bg.wd (Bg.val us / d)) ∧ Below w.heap.size w w' := by
  have CA := hide (WS.at hu)
  have OA := hide (fun i x h => hu.cells.2.2.2.1.at (i := i) (x := x) h)
  clear hu
  have hmk := mkw w us.length (us.length : Int) rfl (by omega)
  have hdn : ((d : Int) == 0) = false := by rw [beq_eq_false_iff_ne]; omega
  go_enter Tryz.func103, Tryz.ntmps103
  go_wp2_with fail
  go_loopw [7, 8] (fun rv i wr => ∃ (m r : Nat) (qs : List Nat), m ≤ us.length ∧ i = .int .i64 ((m : Int) - 1) ∧ rv = .int .u64 (r : Int) ∧ r < d ∧ qs.length = us.length ∧ Hid (Bg.Ok qs) ∧ Hid (∀ j x, j < m → qs[j]? = some x → x = 0) ∧ Hid (Bg.val (us.drop m) = Bg.val (qs.drop m) * d + r) ∧ Hid (RW wr w.heap.size qs) ∧ Hid (Below w.heap.size w wr)) (fun _ i _ => (intOf i + 1).toNat)
  case atStart => exact ⟨us.length, 0, List.replicate us.length 0, Nat.le_refl _, rfl, rfl, hd0, by simp, hide (Bg.Ok.zeros _), hide (fun j x _ => Bg.zero_rep _ j x (Nat.zero_le _)), hide (by rw [List.drop_length, List.drop_of_length_le (by simp)]; simp [Bg.val]), hide (RW.made _ _), hide (below_new _ _)⟩
  case round =>
    obtain ⟨m, r, qs, hml, rfl, rfl, hrd, hql, HO, HZ, HE, HR, HB⟩ := hrel
    clear hmk
    have fz := (unhide HR).frozen
    rcases Nat.eq_zero_or_pos m with h0 | h0
    · subst h0
      have T : Hid (∀ wx, RW wx w.heap.size qs → Calls Tryz.prog 85 #[.slice (some ⟨w.heap.size, 0, none⟩) us.length us.length] wx fun e w' => ∃ u, e = .returned u ∧ WS w' u (Bg.wd (Bg.val us / d)) ∧ Below wx.heap.size wx w') := hide fun wx h => by
        have e := unhide HE
        rw [List.drop_zero, List.drop_zero] at e
        have t := trim_any (.slice (some ⟨w.heap.size, 0, none⟩) us.length us.length) qs wx (by
          have := WS.whole h (unhide HO) (cap := us.length) (by simp [hql]) (by omega)
          simpa [hql] using this)
        rwa [show Bg.val qs = Bg.val us / d by rw [e, Nat.mul_comm, Nat.mul_add_div hd0, Nat.div_eq_of_lt hrd, Nat.add_zero]] at t
      have HM : Hid (r = Bg.val us % d) := hide (by
        have e := unhide HE
        rw [List.drop_zero, List.drop_zero] at e
        rw [e, Nat.mul_comm, Nat.mul_add_mod, Nat.mod_eq_of_lt hrd])
      have hr32 : r < 4294967296 := by omega
      clear fz
      go_wp2_with fail
      refine (unhide T _ (unhide HR)).mono ?_
      rintro e w1 ⟨u, rfl, hu, hb⟩
      have HU := hide hu
      have HB1 := hide hb
      clear hu hb
      go_wp2
      refine bodyPost_ret (v := .tuple #[u, .int .u32 (r : Int)]) (by simp [results, Tryz.results103, go_sem]) rfl ?_
      rw [← unhide HM]
      exact ⟨_, rfl, unhide HU, below_via (unhide HB) (unhide HB1)⟩
    · obtain ⟨k, rfl⟩ : ∃ k, m = k + 1 := ⟨m - 1, by omega⟩
      obtain ⟨x, hx⟩ : ∃ x, us[k]? = some x := ⟨_, List.getElem?_eq_getElem (by omega)⟩
      obtain ⟨b1, o1, rfl, l1, c1⟩ := unhide CA k x hx
      have d1 := ((unhide HB).cell (p := ⟨b1, o1 + k, none⟩) l1).trans c1
      have hxb : x < 4294967296 := unhide OA k x hx
      obtain ⟨r0, hr0⟩ : ∃ r0, qs[k]? = some r0 := ⟨_, List.getElem?_eq_getElem (by omega)⟩
      have d0 := (unhide HR).cell hr0
      have f0 := fz k
      have hk1 : ((k + 1 : Nat) : Int) - 1 = (k : Int) := by omega
      have hkl : (k : Int) < (us.length : Int) := by omega
      have hpos : (0 : Int) ≤ (k : Int) := by omega
      rw [hk1]
      have hr32 : r < 4294967296 := by omega
      have HOR := hide (or_shift2 hxb hr32)
      obtain ⟨h, hh⟩ : ∃ h, h = x + 4294967296 * r := ⟨_, rfl⟩
      rw [← hh] at HOR
      have hlt := Bg.small_lt hrd hxb hh
      have ht1 : ((h : Nat) : Int).tdiv (d : Int) = ((h / d : Nat) : Int) := rfl
      have ht2 : ((h : Nat) : Int).tmod (d : Int) = ((h % d : Nat) : Int) := rfl
      have HH := hide hh
      clear hh
      have HX := hide hx
      clear hx c1 hr0 fz hk1
      go_wp2
      rw [unhide HOR, ht1, ht2]
      obtain ⟨t, ht⟩ : ∃ t, t = h / d := ⟨_, rfl⟩
      rw [← ht] at hlt ⊢
      have hwt : IntKind.u64.wrap (t : Int) = (t : Int) := by rw [IntKind.wrap_u64]; omega
      have hwm : (t : Int) % 4294967296 = (t : Int) := by omega
      rw [hwt, hwm]
      go_roundw
      case rel => exact ⟨k, h % d, qs.set k t, by omega, rfl, rfl, Nat.mod_lt _ hd0, by simpa using hql, hide ((unhide HO).set _ hlt), hide (fun j z hj hz => by
          rw [List.getElem?_set_ne (by omega)] at hz
          exact unhide HZ j z (by omega) hz), hide (by
          rw [Bg.drop_set (by omega), List.drop_eq_getElem_cons (by omega : k < us.length), Bg.val, Bg.val, (List.getElem?_eq_some_iff.1 (unhide HX)).2, ht]
          exact Bg.small_step (unhide HE) (unhide HH)), hide ((unhide HR).set k t), hide (below_set (unhide HB) (Nat.le_refl _))⟩
      case measure => simp [intOf]

theorem small_any (u : Value) (a d : Nat) (w : World) (hu : WS w u (Bg.wd a)) (ha : (Bg.wd a).length ≤ 100000) (hd0 : 0 < d) (hd : d < 4294967296) :
    Calls Tryz.prog 103 #[u, .int .u32 (d : Int)] w fun e w' => ∃ u, e = .returned (.tuple #[u, .int .u32 ((a % d : Nat) : Int)]) ∧ WS w' u (Bg.wd (a / d)) ∧ Below w.heap.size w w' := by
  obtain ⟨p, cap, rfl, _⟩ := id hu
  have := small_go p cap d _ w hu (by omega) hd0 hd
  rwa [Bg.val_wd] at this
end Go.Proofs.YtibkemolmpcdcaaGreatDoor
