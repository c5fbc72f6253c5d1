/- Walks: Same of tables. -/
import Derived.Test.YtnegjbkbfgkkjaaGreatDoorG36
import Derived.Test.YtnegjbkbfgkkjaaGreatDoorG26
import Derived.Test.YtnegjbkbfgkkjaaGreatDoorG44
import Derived.BigRegion
import Derived.Deep.RegionHeld2
import Derived.Deep.Cut
import Derived.Deep.CutRange
namespace Go.Proofs.YtnegjbkbfgkkjaaGreatDoor
open Go.RowKit Go.MapKept

theorem row16_12 {w : World} {b o : Nat} {v0 v1 v2 v3 v4 v5 v6 v7 v8 v9 v10 v11 v12 v13 v14 v15 : Value} (h : ∀ j u, (#[v0, v1, v2, v3, v4, v5, v6, v7, v8, v9, v10, v11, v12, v13, v14, v15] : Array Value)[j]? = some u → w.cell? ⟨b, o + j, none⟩ = some u) : w.cell? ⟨b, o, none⟩ = some v0 ∧ w.cell? ⟨b, o + 1, none⟩ = some v1 ∧ w.cell? ⟨b, o + 2, none⟩ = some v2 ∧ w.cell? ⟨b, o + 3, none⟩ = some v3 ∧ w.cell? ⟨b, o + 4, none⟩ = some v4 ∧ w.cell? ⟨b, o + 5, none⟩ = some v5 ∧ w.cell? ⟨b, o + 6, none⟩ = some v6 ∧ w.cell? ⟨b, o + 7, none⟩ = some v7 ∧ w.cell? ⟨b, o + 8, none⟩ = some v8 ∧ w.cell? ⟨b, o + 9, none⟩ = some v9 ∧ w.cell? ⟨b, o + 10, none⟩ = some v10 ∧ w.cell? ⟨b, o + 11, none⟩ = some v11 ∧ w.cell? ⟨b, o + 12, none⟩ = some v12 ∧ w.cell? ⟨b, o + 13, none⟩ = some v13 ∧ w.cell? ⟨b, o + 14, none⟩ = some v14 ∧ w.cell? ⟨b, o + 15, none⟩ = some v15 :=
  ⟨by have := h 0 _ rfl; rwa [Nat.add_zero] at this, h 1 _ rfl, h 2 _ rfl, h 3 _ rfl, h 4 _ rfl, h 5 _ rfl, h 6 _ rfl, h 7 _ rfl, h 8 _ rfl, h 9 _ rfl, h 10 _ rfl, h 11 _ rfl, h 12 _ rfl, h 13 _ rfl, h 14 _ rfl, h 15 _ rfl⟩
theorem row9_12 {w : World} {b o : Nat} {v0 v1 v2 v3 v4 v5 v6 v7 v8 : Value} (h : ∀ j u, (#[v0, v1, v2, v3, v4, v5, v6, v7, v8] : Array Value)[j]? = some u → w.cell? ⟨b, o + j, none⟩ = some u) : w.cell? ⟨b, o, none⟩ = some v0 ∧ w.cell? ⟨b, o + 1, none⟩ = some v1 ∧ w.cell? ⟨b, o + 2, none⟩ = some v2 ∧ w.cell? ⟨b, o + 3, none⟩ = some v3 ∧ w.cell? ⟨b, o + 4, none⟩ = some v4 ∧ w.cell? ⟨b, o + 5, none⟩ = some v5 ∧ w.cell? ⟨b, o + 6, none⟩ = some v6 ∧ w.cell? ⟨b, o + 7, none⟩ = some v7 ∧ w.cell? ⟨b, o + 8, none⟩ = some v8 :=
  ⟨by have := h 0 _ rfl; rwa [Nat.add_zero] at this, h 1 _ rfl, h 2 _ rfl, h 3 _ rfl, h 4 _ rfl, h 5 _ rfl, h 6 _ rfl, h 7 _ rfl, h 8 _ rfl⟩

set_option maxRecDepth 100000 in
set_option maxHeartbeats 8000000 in
theorem sameTable_any {B : Nat} (t : TbT) (u v : Array Value) (w : World) (hB : B ≤ w.heap.size) (h1 : TbM B w t u) (h2 : TbM B w t v) :
    Calls Tryz.prog 14 #[.agg u, .agg v] w fun e w' => e = .returned (.bool true) ∧ Below w.heap.size w w' := by
  obtain ⟨i1, o1, r1, rfl, hi1, ho1, hr1⟩ := h1
  obtain ⟨i2, o2, r2, rfl, hi2, ho2, hr2⟩ := h2
  obtain ⟨ia1, ic1, rfl, _⟩ := id hi1.tell
  obtain ⟨oa1, oc1, rfl, _⟩ := id ho1.tell
  obtain ⟨ra1, rc1, rfl, _⟩ := id hr1.tell
  obtain ⟨ia2, ic2, rfl, _⟩ := id hi2.tell
  obtain ⟨oa2, oc2, rfl, _⟩ := id ho2.tell
  obtain ⟨ra2, rc2, rfl, _⟩ := id hr2.tell
  obtain ⟨w0, hw0⟩ : ∃ w0, w0 = (w.alloc (.cells #[.string t.name, .int .i64 t.pol, .slice ia1 t.ins.length ic1, .slice oa1 t.outs.length oc1, .slice ra1 t.rules.length rc1] 34)).alloc (.cells #[.string t.name, .int .i64 t.pol, .slice ia2 t.ins.length ic2, .slice oa2 t.outs.length oc2, .slice ra2 t.rules.length rc2] 34) := ⟨_, rfl⟩
  have b0 : Below w.heap.size w w0 := by rw [hw0]; exact below_via (vbelow_new _ _) (vbelow_new _ _)
  have X0 : Blk w0 w.heap.size 34 #[.string t.name, .int .i64 t.pol, .slice ia1 t.ins.length ic1, .slice oa1 t.outs.length oc1, .slice ra1 t.rules.length rc1] := by rw [hw0]; exact (Blk.new _ _ _).kept (vbelow_new _ _)
  have Y0 : Blk w0 (w.heap.size + 1) 34 #[.string t.name, .int .i64 t.pol, .slice ia2 t.ins.length ic2, .slice oa2 t.outs.length oc2, .slice ra2 t.rules.length rc2] := by rw [hw0]; exact Blk.new1 _ _ _ _
  have hB0 : B ≤ w0.heap.size := Nat.le_trans hB b0.size
  have CI := hide (fun (wx : World) (hx : Below w0.heap.size w0 wx) => sameColumns_any t.ins _ _ wx (Nat.le_trans hB0 hx.size) (hi1.below ((b0.trans (hx.mono b0.size)).mono hB) fun x cs => CM.below ((b0.trans (hx.mono b0.size)).mono hB)) (hi2.below ((b0.trans (hx.mono b0.size)).mono hB) fun x cs => CM.below ((b0.trans (hx.mono b0.size)).mono hB)))
  have CO := hide (fun (wx : World) (hx : Below w0.heap.size w0 wx) => sameColumns_any t.outs _ _ wx (Nat.le_trans hB0 hx.size) (ho1.below ((b0.trans (hx.mono b0.size)).mono hB) fun x cs => CM.below ((b0.trans (hx.mono b0.size)).mono hB)) (ho2.below ((b0.trans (hx.mono b0.size)).mono hB) fun x cs => CM.below ((b0.trans (hx.mono b0.size)).mono hB)))
  have HR1 := hide (fun (wx : World) (hx : Below w0.heap.size w0 wx) => hr1.below ((b0.trans (hx.mono b0.size)).mono hB) fun x cs => RM.below ((b0.trans (hx.mono b0.size)).mono hB))
  have HR2 := hide (fun (wx : World) (hx : Below w0.heap.size w0 wx) => hr2.below ((b0.trans (hx.mono b0.size)).mono hB) fun x cs => RM.below ((b0.trans (hx.mono b0.size)).mono hB))
  have KX := hide (fun (wx : World) (hx : Below w0.heap.size w0 wx) => And.intro (X0.kept hx).at5 (Y0.kept hx).at5)
  have HB0 := hide b0
  have hln := hr1.len
  have HLN := hide hln
  have gp : (t.pol != t.pol) = false := by simp
  have gn : ((t.rules.length : Int) != (t.rules.length : Int)) = false := by simp
  obtain ⟨⟨x0, x1, x2, x3, x4, _⟩, y0, y1, y2, y3, y4, _⟩ := unhide KX w0 (Below.refl _ _)
  clear hi1 hi2 ho1 ho2 hr1 hr2 b0 X0 Y0 hln
  go_enter Tryz.func14, Tryz.ntmps14
  go_upto_region 1 with fail
  rw [← hw0]
  clear hw0
  go_wp2_with fail
  refine (unhide CI _ (Below.refl _ _)).mono ?_
  rintro e w2 ⟨rfl, hb2⟩
  obtain ⟨⟨x0, x1, x2, x3, x4, _⟩, y0, y1, y2, y3, y4, _⟩ := unhide KX w2 hb2
  have HB2 := hide hb2
  clear hb2
  go_wp2_with fail
  refine (unhide CO _ (unhide HB2)).mono ?_
  rintro e w3 ⟨rfl, hb3⟩
  have hb3' := below_via (unhide HB2) hb3
  obtain ⟨⟨x0, x1, x2, x3, x4, _⟩, y0, y1, y2, y3, y4, _⟩ := unhide KX w3 hb3'
  have HB3 := hide hb3'
  clear hb3 hb3' CI CO HB2
  go_wp2_with fail
  clear x0 x1 x2 x3 x4 y0 y1 y2 y3 y4
  go_loopw [50] (fun i wr => ∃ m : Nat, m ≤ t.rules.length ∧ i = .int .i64 (m : Int) ∧ Hid (Below w0.heap.size w0 wr)) (fun i _ => t.rules.length - (intOf i).toNat)
  case atStart => exact ⟨0, Nat.zero_le _, rfl, HB3⟩
  case round =>
    obtain ⟨m, hm, rfl, HBr⟩ := hrel
    obtain ⟨⟨x0, x1, x2, x3, x4, _⟩, y0, y1, y2, y3, y4, _⟩ := unhide KX wr (unhide HBr)
    by_cases hlt : m < t.rules.length
    · have hi1 : (m : Int) < (t.rules.length : Int) := by omega
      have hi0 : (0 : Int) ≤ (m : Int) := by omega
      obtain ⟨q, hq⟩ : ∃ q, t.rules[m]? = some q := ⟨_, List.getElem?_eq_getElem hlt⟩
      have hBr : B ≤ wr.heap.size := Nat.le_trans hB0 (unhide HBr).size
      have L1 := unhide HR1 wr (unhide HBr)
      have L2 := unhide HR2 wr (unhide HBr)
      obtain ⟨b1, off1, cp1, ev1⟩ := L1.begins (by intro e; rw [e] at hlt; simp at hlt)
      obtain ⟨b2, off2, cp2, ev2⟩ := L2.begins (by intro e; rw [e] at hlt; simp at hlt)
      cases ev1
      cases ev2
      obtain ⟨_, cs1, _, ⟨ta1, oo1, rfl, ht1, hx1⟩, f1⟩ := L1.at2 hq
      obtain ⟨_, cs2, _, ⟨ta2, oo2, rfl, ht2, hx2⟩, f2⟩ := L2.at2 hq
      obtain ⟨tp1, tk1, rfl, _⟩ := id ht1.tell
      obtain ⟨tp2, tk2, rfl, _⟩ := id ht2.tell
      obtain ⟨op1, ok1, rfl, _⟩ := id hx1.tell
      obtain ⟨op2, ok2, rfl, _⟩ := id hx2.tell
      have d0 := f1 0 _ rfl
      have d1 := f1 1 _ rfl
      have e0 := f2 0 _ rfl
      have e1 := f2 1 _ rfl
      rw [Nat.add_zero] at d0 e0
      have z1 := World.block_lt_of_cell? wr _ d0
      have z2 := World.block_lt_of_cell? wr _ e0
      have z3 := World.block_lt_of_cell? wr _ x0
      have z4 := World.block_lt_of_cell? wr _ y0
      simp only at z1 z2 z3 z4
      go_wp2_with fail
      go_cut [6, 7, 50] from 50 to 117 (fun a b i wc => i = .int .i64 (m : Int) ∧ ∃ pA pB, a = .pointer (some ⟨pA, 0, none⟩) ∧ b = .pointer (some ⟨pB, 0, none⟩) ∧ Blk wc pA 75 #[.slice tp1 q.tests.length tk1, .slice op1 q.outs.length ok1] ∧ Blk wc pB 75 #[.slice tp2 q.tests.length tk2, .slice op2 q.outs.length ok2] ∧ Below wr.heap.size wr wc)
      case first =>
        go_region
        · go_wp2_with fail
          go_meet
          case rel => exact ⟨rfl, _, _, rfl, rfl, ((Blk.new _ _ _).kept (vbelow_new _ _)).drew, (Blk.new1 _ _ _ _).drew, (below_via (vbelow_new _ _) (vbelow_new _ _)).drew⟩
        · go_wp2_with fail
          go_meet
          case rel => exact ⟨rfl, _, _, rfl, rfl, (Blk.new1 _ _ _ _).drew, ((Blk.new _ _ _).kept (vbelow_new _ _)).drew, (below_via (vbelow_new _ _) (vbelow_new _ _)).drew⟩
      case rest =>
        obtain ⟨rfl, pA, pB, rfl, rfl, hcA, hcC, hcb⟩ := hcut
        have HB4 := hide (below_via (unhide HBr) hcb)
        have KR := hide (fun (wx : World) (hx : Below wc.heap.size wc wx) => And.intro (hcA.kept hx).at2 (hcC.kept hx).at2)
        have hB4 : B ≤ wc.heap.size := Nat.le_trans hBr hcb.size
        have HT1 := hide (fun (wx : World) (hx : Below wc.heap.size wc wx) => ht1.below ((hcb.trans (hx.mono hcb.size)).mono hBr) fun x cs => MemS.below ((hcb.trans (hx.mono hcb.size)).mono hBr))
        have HT2 := hide (fun (wx : World) (hx : Below wc.heap.size wc wx) => ht2.below ((hcb.trans (hx.mono hcb.size)).mono hBr) fun x cs => MemS.below ((hcb.trans (hx.mono hcb.size)).mono hBr))
        have HX1 := hide (fun (wx : World) (hx : Below wc.heap.size wc wx) => hx1.below ((hcb.trans (hx.mono hcb.size)).mono hBr) fun x cs => XMem.below ((hcb.trans (hx.mono hcb.size)).mono hBr))
        have HX2 := hide (fun (wx : World) (hx : Below wc.heap.size wc wx) => hx2.below ((hcb.trans (hx.mono hcb.size)).mono hBr) fun x cs => XMem.below ((hcb.trans (hx.mono hcb.size)).mono hBr))
        have gt : ((q.tests.length : Int) != (q.tests.length : Int)) = false := by simp
        have gx : ((q.outs.length : Int) != (q.outs.length : Int)) = false := by simp
        have HTL := hide ht1.len
        have HXL := hide hx1.len
        have hw : IntKind.i64.wrap ((m : Int) + 1) = ((m + 1 : Nat) : Int) := by have := unhide HLN; rw [IntKind.wrap_i64]; omega
        clear hcb hcA hcC L1 L2 ht1 ht2 hx1 hx2 f1 f2 d0 d1 e0 e1 hq hBr HBr z1 z2 z3 z4 x0 x1 x2 x3 x4 y0 y1 y2 y3 y4
        obtain ⟨⟨p0, p1, _, _, pl⟩, r0, r1, _, _, rl⟩ := unhide KR wc (Below.refl _ _)
        go_wp2_with fail
        clear p0 p1 r0 r1 pl rl
        go_loopw [82] (fun i wr => ∃ k : Nat, k ≤ q.tests.length ∧ i = .int .i64 (k : Int) ∧ Hid (Below wc.heap.size wc wr)) (fun i _ => q.tests.length - (intOf i).toNat)
        case atStart => exact ⟨0, Nat.zero_le _, rfl, hide (Below.refl _ _)⟩
        case round =>
          obtain ⟨k, hk, rfl, HBk⟩ := hrel
          obtain ⟨⟨p0, p1, _, _, pl⟩, r0, r1, _, _, rl⟩ := unhide KR wr (unhide HBk)
          by_cases hlk : k < q.tests.length
          · have hk1 : (k : Int) < (q.tests.length : Int) := by omega
            have hk0 : (0 : Int) ≤ (k : Int) := by omega
            obtain ⟨y, hy⟩ : ∃ y, q.tests[k]? = some y := ⟨_, List.getElem?_eq_getElem hlk⟩
            have hBk : B ≤ wr.heap.size := Nat.le_trans hB4 (unhide HBk).size
            have L1 := unhide HT1 wr (unhide HBk)
            have L2 := unhide HT2 wr (unhide HBk)
            obtain ⟨b1, off1, cp1, ev1⟩ := L1.begins (by intro e; rw [e] at hlk; simp at hlk)
            obtain ⟨b2, off2, cp2, ev2⟩ := L2.begins (by intro e; rw [e] at hlk; simp at hlk)
            cases ev1
            cases ev2
            obtain ⟨_, cs1, _, M1, f1⟩ := L1.at2 hy
            obtain ⟨_, cs2, _, M2, f2⟩ := L2.at2 hy
            have CB := hide (fun (wx : World) (hx : Below wr.heap.size wr wx) => sameQ_all y B wx cs1 cs2 (Nat.le_trans hBk hx.size) (M1.below (hx.mono hBk)) (M2.below (hx.mono hBk)))
            obtain ⟨g01, g02, g03, g04, g05, g06, g07, g08, g09, g10, g11, g12, g13, g14, g15, g16, g17, g18, g19, g20, g21, g22, rfl⟩ := M1.form12
            obtain ⟨h01, h02, h03, h04, h05, h06, h07, h08, h09, h10, h11, h12, h13, h14, h15, h16, h17, h18, h19, h20, h21, h22, rfl⟩ := M2.form12
            have z1 := World.block_lt_of_cell? wr _ (f1 1 _ rfl)
            have z2 := World.block_lt_of_cell? wr _ (f2 1 _ rfl)
            have KQ := hide (fun (wx : World) (hx : Below wr.heap.size wr wx) => And.intro (row16_12 (fun j u hu => (hx.cell (p := ⟨b1, off1 + k * 16 + j, none⟩) z1).trans (f1 j u hu))) (And.intro (row16_12 (fun j u hu => (hx.cell (p := ⟨b2, off2 + k * 16 + j, none⟩) z2).trans (f2 j u hu))) (And.intro ((hx.cell (p := ⟨pA, 0, none⟩) pl).trans p0) ((hx.cell (p := ⟨pB, 0, none⟩) rl).trans r0))))
            obtain ⟨⟨d0, d1, d2, d3, d4, d5, d6, d7, d8, d9, d10, d11, d12, d13, d14, d15⟩, ⟨e0, e1, e2, e3, e4, e5, e6, e7, e8, e9, e10, e11, e12, e13, e14, e15⟩, _, _⟩ := unhide KQ wr (Below.refl _ _)
            clear L1 L2 M1 M2 f1 f2 hy hBk z1 z2
            have hb := Below.refl wr.heap.size wr
            go_wp2_with fail
            go_region_held2 (fun w' => (w'.cell? ⟨b1, off1 + k * 16, none⟩ = some (.int .i64 g01) ∧ w'.cell? ⟨b1, off1 + k * 16 + 1, none⟩ = some (.int .i64 g02) ∧ w'.cell? ⟨b1, off1 + k * 16 + 2, none⟩ = some (.bool g03) ∧ w'.cell? ⟨b1, off1 + k * 16 + 3, none⟩ = some (.int .i64 g04) ∧ w'.cell? ⟨b1, off1 + k * 16 + 4, none⟩ = some (.int .i64 g05) ∧ w'.cell? ⟨b1, off1 + k * 16 + 5, none⟩ = some (.string g06) ∧ w'.cell? ⟨b1, off1 + k * 16 + 6, none⟩ = some (.slice g07 g08 g09) ∧ w'.cell? ⟨b1, off1 + k * 16 + 7, none⟩ = some (.int .i64 g10) ∧ w'.cell? ⟨b1, off1 + k * 16 + 8, none⟩ = some (.bool g11) ∧ w'.cell? ⟨b1, off1 + k * 16 + 9, none⟩ = some (.int .i64 g12) ∧ w'.cell? ⟨b1, off1 + k * 16 + 10, none⟩ = some (.int .i64 g13) ∧ w'.cell? ⟨b1, off1 + k * 16 + 11, none⟩ = some (.string g14) ∧ w'.cell? ⟨b1, off1 + k * 16 + 12, none⟩ = some (.slice g15 g16 g17) ∧ w'.cell? ⟨b1, off1 + k * 16 + 13, none⟩ = some (.bool g18) ∧ w'.cell? ⟨b1, off1 + k * 16 + 14, none⟩ = some (.bool g19) ∧ w'.cell? ⟨b1, off1 + k * 16 + 15, none⟩ = some (.slice g20 g21 g22)) ∧ (w'.cell? ⟨b2, off2 + k * 16, none⟩ = some (.int .i64 h01) ∧ w'.cell? ⟨b2, off2 + k * 16 + 1, none⟩ = some (.int .i64 h02) ∧ w'.cell? ⟨b2, off2 + k * 16 + 2, none⟩ = some (.bool h03) ∧ w'.cell? ⟨b2, off2 + k * 16 + 3, none⟩ = some (.int .i64 h04) ∧ w'.cell? ⟨b2, off2 + k * 16 + 4, none⟩ = some (.int .i64 h05) ∧ w'.cell? ⟨b2, off2 + k * 16 + 5, none⟩ = some (.string h06) ∧ w'.cell? ⟨b2, off2 + k * 16 + 6, none⟩ = some (.slice h07 h08 h09) ∧ w'.cell? ⟨b2, off2 + k * 16 + 7, none⟩ = some (.int .i64 h10) ∧ w'.cell? ⟨b2, off2 + k * 16 + 8, none⟩ = some (.bool h11) ∧ w'.cell? ⟨b2, off2 + k * 16 + 9, none⟩ = some (.int .i64 h12) ∧ w'.cell? ⟨b2, off2 + k * 16 + 10, none⟩ = some (.int .i64 h13) ∧ w'.cell? ⟨b2, off2 + k * 16 + 11, none⟩ = some (.string h14) ∧ w'.cell? ⟨b2, off2 + k * 16 + 12, none⟩ = some (.slice h15 h16 h17) ∧ w'.cell? ⟨b2, off2 + k * 16 + 13, none⟩ = some (.bool h18) ∧ w'.cell? ⟨b2, off2 + k * 16 + 14, none⟩ = some (.bool h19) ∧ w'.cell? ⟨b2, off2 + k * 16 + 15, none⟩ = some (.slice h20 h21 h22)) ∧ w'.cell? ⟨pA, 0, none⟩ = some (.slice (some ⟨b1, off1, none⟩) q.tests.length tk1) ∧ w'.cell? ⟨pB, 0, none⟩ = some (.slice (some ⟨b2, off2, none⟩) q.tests.length tk2))
              (exact unhide KQ _ (by repeat (first | assumption | with_reducible exact Below.refl _ _ | with_reducible apply Below.drew)))
              (((with_reducible refine (unhide CB _ ?_).mono ?_; · exact (by repeat (first | assumption | with_reducible exact Below.refl _ _ | with_reducible apply Below.drew))); rintro e w2 ⟨rfl, hb2⟩; replace hb : Below wr.heap.size wr w2 := below_via (by repeat (first | assumption | with_reducible exact Below.refl _ _ | with_reducible apply Below.drew)) hb2))
            all_goals
              have HB5 := hide (below_via (unhide HBk) hb)
              clear hb hb2 KQ d0 d1 d2 d3 d4 d5 d6 d7 d8 d9 d10 d11 d12 d13 d14 d15 e0 e1 e2 e3 e4 e5 e6 e7 e8 e9 e10 e11 e12 e13 e14 e15 CB HBk p0 p1 r0 r1
              have hw : IntKind.i64.wrap ((k : Int) + 1) = ((k + 1 : Nat) : Int) := by have := unhide HTL; rw [IntKind.wrap_i64]; omega
              go_wp2
              go_roundw
              case rel => exact ⟨k + 1, by omega, by first | rfl | go_num, HB5⟩
              case measure => simp [intOf]; omega
          · obtain rfl : k = q.tests.length := by omega
            go_wp2_with fail
            clear p0 p1 r0 r1 pl rl hlk hk
            go_loopw [101] (fun i wr => ∃ k : Nat, k ≤ q.outs.length ∧ i = .int .i64 (k : Int) ∧ Hid (Below wc.heap.size wc wr)) (fun i _ => q.outs.length - (intOf i).toNat)
            case atStart => exact ⟨0, Nat.zero_le _, rfl, HBk⟩
            case round =>
              clear HBk
              obtain ⟨k, hk, rfl, HBk⟩ := hrel
              obtain ⟨⟨p0, p1, _, _, pl⟩, r0, r1, _, _, rl⟩ := unhide KR wr (unhide HBk)
              by_cases hlk : k < q.outs.length
              · have hk1 : (k : Int) < (q.outs.length : Int) := by omega
                have hk0 : (0 : Int) ≤ (k : Int) := by omega
                obtain ⟨y, hy⟩ : ∃ y, q.outs[k]? = some y := ⟨_, List.getElem?_eq_getElem hlk⟩
                have hBk : B ≤ wr.heap.size := Nat.le_trans hB4 (unhide HBk).size
                have L1 := unhide HX1 wr (unhide HBk)
                have L2 := unhide HX2 wr (unhide HBk)
                obtain ⟨b1, off1, cp1, ev1⟩ := L1.begins (by intro e; rw [e] at hlk; simp at hlk)
                obtain ⟨b2, off2, cp2, ev2⟩ := L2.begins (by intro e; rw [e] at hlk; simp at hlk)
                cases ev1
                cases ev2
                obtain ⟨_, cs1, _, M1, f1⟩ := L1.at2 hy
                obtain ⟨_, cs2, _, M2, f2⟩ := L2.at2 hy
                have CB := hide (fun (wx : World) (hx : Below wr.heap.size wr wx) => sameE_all y B wx cs1 cs2 (Nat.le_trans hBk hx.size) (M1.below (hx.mono hBk)) (M2.below (hx.mono hBk)))
                obtain ⟨g1, g2, g3, g4, g5, g6, g7, g8, g9, g10, g11, g12, g13, rfl⟩ := M1.form
                obtain ⟨h1, h2, h3, h4, h5, h6, h7, h8, h9, h10, h11, h12, h13, rfl⟩ := M2.form
                have z1 := World.block_lt_of_cell? wr _ (f1 1 _ rfl)
                have z2 := World.block_lt_of_cell? wr _ (f2 1 _ rfl)
                have KQ := hide (fun (wx : World) (hx : Below wr.heap.size wr wx) => And.intro (row9_12 (fun j u hu => (hx.cell (p := ⟨b1, off1 + k * 9 + j, none⟩) z1).trans (f1 j u hu))) (And.intro (row9_12 (fun j u hu => (hx.cell (p := ⟨b2, off2 + k * 9 + j, none⟩) z2).trans (f2 j u hu))) (And.intro ((hx.cell (p := ⟨pA, 1, none⟩) pl).trans p1) ((hx.cell (p := ⟨pB, 1, none⟩) rl).trans r1))))
                obtain ⟨⟨d0, d1, d2, d3, d4, d5, d6, d7, d8⟩, ⟨e0, e1, e2, e3, e4, e5, e6, e7, e8⟩, _, _⟩ := unhide KQ wr (Below.refl _ _)
                clear L1 L2 M1 M2 f1 f2 hy hBk z1 z2
                have hb := Below.refl wr.heap.size wr
                go_wp2_with fail
                go_region_held2 (fun w' => (w'.cell? ⟨b1, off1 + k * 9, none⟩ = some (.int .i64 g1) ∧ w'.cell? ⟨b1, off1 + k * 9 + 1, none⟩ = some (.int .i64 g2) ∧ w'.cell? ⟨b1, off1 + k * 9 + 2, none⟩ = some (.bool g3) ∧ w'.cell? ⟨b1, off1 + k * 9 + 3, none⟩ = some (.int .i64 g4) ∧ w'.cell? ⟨b1, off1 + k * 9 + 4, none⟩ = some (.int .i64 g5) ∧ w'.cell? ⟨b1, off1 + k * 9 + 5, none⟩ = some (.string g6) ∧ w'.cell? ⟨b1, off1 + k * 9 + 6, none⟩ = some (.slice g7 g8 g9) ∧ w'.cell? ⟨b1, off1 + k * 9 + 7, none⟩ = some (.string g10) ∧ w'.cell? ⟨b1, off1 + k * 9 + 8, none⟩ = some (.slice g11 g12 g13)) ∧ (w'.cell? ⟨b2, off2 + k * 9, none⟩ = some (.int .i64 h1) ∧ w'.cell? ⟨b2, off2 + k * 9 + 1, none⟩ = some (.int .i64 h2) ∧ w'.cell? ⟨b2, off2 + k * 9 + 2, none⟩ = some (.bool h3) ∧ w'.cell? ⟨b2, off2 + k * 9 + 3, none⟩ = some (.int .i64 h4) ∧ w'.cell? ⟨b2, off2 + k * 9 + 4, none⟩ = some (.int .i64 h5) ∧ w'.cell? ⟨b2, off2 + k * 9 + 5, none⟩ = some (.string h6) ∧ w'.cell? ⟨b2, off2 + k * 9 + 6, none⟩ = some (.slice h7 h8 h9) ∧ w'.cell? ⟨b2, off2 + k * 9 + 7, none⟩ = some (.string h10) ∧ w'.cell? ⟨b2, off2 + k * 9 + 8, none⟩ = some (.slice h11 h12 h13)) ∧ w'.cell? ⟨pA, 1, none⟩ = some (.slice (some ⟨b1, off1, none⟩) q.outs.length ok1) ∧ w'.cell? ⟨pB, 1, none⟩ = some (.slice (some ⟨b2, off2, none⟩) q.outs.length ok2))
                  (exact unhide KQ _ (by repeat (first | assumption | with_reducible exact Below.refl _ _ | with_reducible apply Below.drew)))
                  (((with_reducible refine (unhide CB _ ?_).mono ?_; · exact (by repeat (first | assumption | with_reducible exact Below.refl _ _ | with_reducible apply Below.drew))); rintro e w2 ⟨rfl, hb2⟩; replace hb : Below wr.heap.size wr w2 := below_via (by repeat (first | assumption | with_reducible exact Below.refl _ _ | with_reducible apply Below.drew)) hb2))
                all_goals
                  have HB5 := hide (below_via (unhide HBk) hb)
                  clear hb hb2 KQ d0 d1 d2 d3 d4 d5 d6 d7 d8 e0 e1 e2 e3 e4 e5 e6 e7 e8 CB HBk p0 p1 r0 r1
                  have hw : IntKind.i64.wrap ((k : Int) + 1) = ((k + 1 : Nat) : Int) := by have := unhide HXL; rw [IntKind.wrap_i64]; omega
                  go_wp2
                  go_roundw
                  case rel => exact ⟨k + 1, by omega, by first | rfl | go_num, HB5⟩
                  case measure => simp [intOf]; omega
              · obtain rfl : k = q.outs.length := by omega
                have HB6 := hide (below_via (unhide HB4) (unhide HBk))
                clear p0 p1 r0 r1 pl rl hlk hk HBk
                go_wp2
                go_roundw
                case rel => exact ⟨m + 1, by omega, by first | rfl | go_num, HB6⟩
                case measure => simp [intOf]; omega
    · obtain rfl : m = t.rules.length := by omega
      go_wp2
      go_ret
      exact ⟨rfl, below_via (unhide HB0) (unhide HBr)⟩
end Go.Proofs.YtnegjbkbfgkkjaaGreatDoor

/- Walks: Same of replies. -/
namespace Go.Proofs.YtnegjbkbfgkkjaaGreatDoor
open Go.RowKit Go.MapKept

def ReM (p : Rp.Reply) (cs : Array Value) : Prop := cs = #[.int .i64 p.err, .int .i64 p.version]
theorem ls_replies {L : Nat} {w : World} {v : Value} {l : List Rp.Reply} (h : w.ownsRow L 39 2 v l.length (l.flatMap repC)) : Ls w.heap.size w 2 ReM l v := by
  obtain ⟨a, cap, e, hc, hk⟩ := own_read (enc := repC) (fun _ => rfl) h
  refine ⟨by omega, a, cap, e, hc, fun hne => ?_⟩
  obtain ⟨g, e, _, hg, hx⟩ := hk hne
  refine ⟨g, 0, e, hg, fun i x hi => ⟨#[.int .i64 x.err, .int .i64 x.version], rfl, rfl, fun j u hj => ?_⟩⟩
  rw [Nat.zero_add]
  exact hx i x hi j u (by simpa [repC] using hj)

set_option maxRecDepth 100000 in
set_option maxHeartbeats 8000000 in
theorem sameReplies_any (l : List Rp.Reply) (v1 v2 : Value) (w : World) (h1 : Ls w.heap.size w 2 ReM l v1) (h2 : Ls w.heap.size w 2 ReM l v2) :
    Calls Tryz.prog 12 #[v1, v2] w fun e w' => e = .returned (.bool true) ∧ Below w.heap.size w w' := by
  obtain ⟨a1, c1, rfl, _⟩ := id h1.tell
  obtain ⟨a2, c2, rfl, _⟩ := id h2.tell
  have hlen := h1.len
  obtain ⟨n, hn⟩ : ∃ n, n = l.length := ⟨_, rfl⟩
  rw [← hn] at h1 h2 hlen ⊢
  have H1 := hide h1
  have H2 := hide h2
  have HN := hide hn
  have HL := hide hlen
  have g2 : ((n : Int) != (n : Int)) = false := by simp
  clear h1 h2 hn hlen
  go_enter Tryz.func12, Tryz.ntmps12
  go_wp2_with fail
  go_loopw [13] (fun i wr => ∃ m : Nat, m ≤ n ∧ i = .int .i64 (m : Int) ∧ Hid (Below w.heap.size w wr)) (fun i _ => n - (intOf i).toNat)
  case atStart => exact ⟨0, Nat.zero_le _, rfl, hide (Below.refl _ _)⟩
  case round =>
    obtain ⟨m, hm, rfl, HBr⟩ := hrel
    by_cases hlt2 : m < n
    · have hi1 : (m : Int) < (n : Int) := by omega
      have hi0 : (0 : Int) ≤ (m : Int) := by omega
      have hmk : m < l.length := by rw [← unhide HN]; exact hlt2
      obtain ⟨u, hu⟩ : ∃ u, l[m]? = some u := ⟨_, List.getElem?_eq_getElem hmk⟩
      obtain ⟨b1, o1, rfl, l1, cs1, _, rfl, f1⟩ := (unhide H1).row12 (unhide HBr) (fun _ _ h => h) hu
      obtain ⟨b2, o2, rfl, l2, cs2, _, rfl, f2⟩ := (unhide H2).row12 (unhide HBr) (fun _ _ h => h) hu
      have d0 := f1 0 _ rfl
      have d1 := f1 1 _ rfl
      have e0 := f2 0 _ rfl
      have e1 := f2 1 _ rfl
      rw [Nat.add_zero] at d0 e0
      clear hu f1 f2 hmk l1 l2
      go_wp2_with fail
      go_region
      all_goals
        have HB2 := hide (unhide HBr).drew
        clear HBr d0 d1 e0 e1
        have hw : IntKind.i64.wrap ((m : Int) + 1) = ((m + 1 : Nat) : Int) := by have := unhide HN; have := unhide HL; rw [IntKind.wrap_i64]; omega
        go_wp2
        go_roundw
        case rel => exact ⟨m + 1, by omega, by first | rfl | go_num, HB2⟩
        case measure => simp [intOf]; omega
    · obtain rfl : m = n := by omega
      go_wp2
      go_ret
      exact ⟨rfl, unhide HBr⟩
end Go.Proofs.YtnegjbkbfgkkjaaGreatDoor

/- Walks: Same of repos. -/
namespace Go.Proofs.YtnegjbkbfgkkjaaGreatDoor
open Go.RowKit Go.MapKept

theorem row6_12 {w : World} {b o : Nat} {v0 v1 v2 v3 v4 v5 : Value} (h : ∀ j u, (#[v0, v1, v2, v3, v4, v5] : Array Value)[j]? = some u → w.cell? ⟨b, o + j, none⟩ = some u) : w.cell? ⟨b, o, none⟩ = some v0 ∧ w.cell? ⟨b, o + 1, none⟩ = some v1 ∧ w.cell? ⟨b, o + 2, none⟩ = some v2 ∧ w.cell? ⟨b, o + 3, none⟩ = some v3 ∧ w.cell? ⟨b, o + 4, none⟩ = some v4 ∧ w.cell? ⟨b, o + 5, none⟩ = some v5 :=
  ⟨by have := h 0 _ rfl; rwa [Nat.add_zero] at this, h 1 _ rfl, h 2 _ rfl, h 3 _ rfl, h 4 _ rfl, h 5 _ rfl⟩

set_option maxRecDepth 100000 in
set_option maxHeartbeats 8000000 in
theorem same_any {B : Nat} (r : Rp.Repo ByteArray TbT) (u v : Array Value) (w : World) (hB : B ≤ w.heap.size) (h1 : RpM B w r u) (h2 : RpM B w r v) :
    Calls Tryz.prog 11 #[.agg u, .agg v] w fun e w' => e = .returned (.bool true) ∧ Below w.heap.size w w' := by
  obtain ⟨e1, s1, rfl, ⟨he1, _⟩, hs1, _⟩ := h1
  obtain ⟨e2, s2, rfl, ⟨he2, _⟩, hs2, _⟩ := h2
  obtain ⟨ea1, ec1, rfl, _⟩ := id he1.tell
  obtain ⟨sa1, sc1, rfl, _⟩ := id hs1.tell
  obtain ⟨ea2, ec2, rfl, _⟩ := id he2.tell
  obtain ⟨sa2, sc2, rfl, _⟩ := id hs2.tell
  obtain ⟨w0, hw0⟩ : ∃ w0, w0 = (w.alloc (.cells #[.slice ea1 r.entries.length ec1, .slice sa1 r.seats.length sc1, .int .i64 r.applied] 27)).alloc (.cells #[.slice ea2 r.entries.length ec2, .slice sa2 r.seats.length sc2, .int .i64 r.applied] 27) := ⟨_, rfl⟩
  have b0 : Below w.heap.size w w0 := by rw [hw0]; exact below_via (vbelow_new _ _) (vbelow_new _ _)
  have X0 : Blk w0 w.heap.size 27 #[.slice ea1 r.entries.length ec1, .slice sa1 r.seats.length sc1, .int .i64 r.applied] := by rw [hw0]; exact (Blk.new _ _ _).kept (vbelow_new _ _)
  have Y0 : Blk w0 (w.heap.size + 1) 27 #[.slice ea2 r.entries.length ec2, .slice sa2 r.seats.length sc2, .int .i64 r.applied] := by rw [hw0]; exact Blk.new1 _ _ _ _
  have hB0 : B ≤ w0.heap.size := Nat.le_trans hB b0.size
  have HE1 := hide (fun (wx : World) (hx : Below w0.heap.size w0 wx) => he1.below (b0.trans (hx.mono b0.size)) fun x cs => EnM.below hB (b0.trans (hx.mono b0.size)))
  have HE2 := hide (fun (wx : World) (hx : Below w0.heap.size w0 wx) => he2.below (b0.trans (hx.mono b0.size)) fun x cs => EnM.below hB (b0.trans (hx.mono b0.size)))
  have HS1 := hide (fun (wx : World) (hx : Below w0.heap.size w0 wx) => hs1.below (b0.trans (hx.mono b0.size)) fun x cs h => h)
  have HS2 := hide (fun (wx : World) (hx : Below w0.heap.size w0 wx) => hs2.below (b0.trans (hx.mono b0.size)) fun x cs h => h)
  have KX := hide (fun (wx : World) (hx : Below w0.heap.size w0 wx) => And.intro (X0.kept hx).at3 (Y0.kept hx).at3)
  have HB0 := hide b0
  have HLE := hide he1.len
  have HLS := hide hs1.len
  have gp : (r.applied != r.applied) = false := by simp
  have ge : ((r.entries.length : Int) != (r.entries.length : Int)) = false := by simp
  have gs : ((r.seats.length : Int) != (r.seats.length : Int)) = false := by simp
  obtain ⟨⟨x0, x1, x2, _, _, _, xl⟩, y0, y1, y2, _, _, _, yl⟩ := unhide KX w0 (Below.refl _ _)
  clear he1 he2 hs1 hs2 b0 X0 Y0
  go_enter Tryz.func11, Tryz.ntmps11
  go_upto_region 1 with fail
  rw [← hw0]
  clear hw0
  go_wp2_with fail
  clear x0 x1 x2 xl y0 y1 y2 yl
  go_loopw [36] (fun i wr => ∃ m : Nat, m ≤ r.seats.length ∧ i = .int .i64 (m : Int) ∧ Hid (Below w0.heap.size w0 wr)) (fun i _ => r.seats.length - (intOf i).toNat)
  case atStart => exact ⟨0, Nat.zero_le _, rfl, hide (Below.refl _ _)⟩
  case round =>
    obtain ⟨m, hm, rfl, HBr⟩ := hrel
    obtain ⟨⟨x0, x1, x2, _, _, _, xl⟩, y0, y1, y2, _, _, _, yl⟩ := unhide KX wr (unhide HBr)
    by_cases hlt : m < r.seats.length
    · have hi1 : (m : Int) < (r.seats.length : Int) := by omega
      have hi0 : (0 : Int) ≤ (m : Int) := by omega
      obtain ⟨q, hq⟩ : ∃ q, r.seats[m]? = some q := ⟨_, List.getElem?_eq_getElem hlt⟩
      have L1 := unhide HS1 wr (unhide HBr)
      have L2 := unhide HS2 wr (unhide HBr)
      obtain ⟨b1, off1, cp1, ev1⟩ := L1.begins (by intro e; rw [e] at hlt; simp at hlt)
      obtain ⟨b2, off2, cp2, ev2⟩ := L2.begins (by intro e; rw [e] at hlt; simp at hlt)
      cases ev1
      cases ev2
      have f1 := L1.seat hq
      have f2 := L2.seat hq
      have d0 := f1 0 _ rfl
      have d1 := f1 1 _ rfl
      have d2 := f1 2 _ rfl
      have d3 := f1 3 _ rfl
      have e0 := f2 0 _ rfl
      have e1 := f2 1 _ rfl
      have e2 := f2 2 _ rfl
      have e3 := f2 3 _ rfl
      rw [Nat.add_zero] at d0 e0
      clear f1 f2 L1 L2 hq
      go_wp2_with fail
      go_region
      all_goals
        have HB2 := hide (unhide HBr).drew
        clear HBr d0 d1 d2 d3 e0 e1 e2 e3 x0 x1 x2 xl y0 y1 y2 yl
        have hw : IntKind.i64.wrap ((m : Int) + 1) = ((m + 1 : Nat) : Int) := by have := unhide HLS; rw [IntKind.wrap_i64]; omega
        go_wp2
        go_roundw
        case rel => exact ⟨m + 1, by omega, by first | rfl | go_num, HB2⟩
        case measure => simp [intOf]; omega
    · obtain rfl : m = r.seats.length := by omega
      go_wp2_with fail
      clear x0 x1 x2 xl y0 y1 y2 yl hlt hm
      go_loopw [54] (fun i wr => ∃ m : Nat, m ≤ r.entries.length ∧ i = .int .i64 (m : Int) ∧ Hid (Below w0.heap.size w0 wr)) (fun i _ => r.entries.length - (intOf i).toNat)
      case atStart => exact ⟨0, Nat.zero_le _, rfl, HBr⟩
      case round =>
        clear HBr
        obtain ⟨m, hm, rfl, HBr⟩ := hrel
        obtain ⟨⟨x0, x1, x2, _, _, _, xl⟩, y0, y1, y2, _, _, _, yl⟩ := unhide KX wr (unhide HBr)
        by_cases hlt : m < r.entries.length
        · have hi1 : (m : Int) < (r.entries.length : Int) := by omega
          have hi0 : (0 : Int) ≤ (m : Int) := by omega
          obtain ⟨q, hq⟩ : ∃ q, r.entries[m]? = some q := ⟨_, List.getElem?_eq_getElem hlt⟩
          have hBr : B ≤ wr.heap.size := Nat.le_trans hB0 (unhide HBr).size
          have L1 := unhide HE1 wr (unhide HBr)
          have L2 := unhide HE2 wr (unhide HBr)
          obtain ⟨b1, off1, cp1, ev1⟩ := L1.begins (by intro e; rw [e] at hlt; simp at hlt)
          obtain ⟨b2, off2, cp2, ev2⟩ := L2.begins (by intro e; rw [e] at hlt; simp at hlt)
          cases ev1
          cases ev2
          obtain ⟨_, cs1, _, ⟨kv1, rfl, hk1, _⟩, f1⟩ := L1.at2 hq
          obtain ⟨_, cs2, _, ⟨kv2, rfl, hk2, _⟩, f2⟩ := L2.at2 hq
          obtain ⟨ka1, kc1, ekv1, _⟩ := id hk1.tell
          obtain ⟨ka2, kc2, ekv2, _⟩ := id hk2.tell
          subst ekv1 ekv2
          have d0 := f1 0 _ rfl
          have d1 := f1 1 _ rfl
          have d2 := f1 2 _ rfl
          have d3 := f1 3 _ rfl
          have e0 := f2 0 _ rfl
          have e1 := f2 1 _ rfl
          have e2 := f2 2 _ rfl
          have e3 := f2 3 _ rfl
          rw [Nat.add_zero] at d0 e0
          have z1 := World.block_lt_of_cell? wr _ d0
          have z2 := World.block_lt_of_cell? wr _ e0
          simp only at z1 z2
          go_wp2_with fail
          go_cut [7, 8, 54] from 54 to 131 (fun a b i wc => i = .int .i64 (m : Int) ∧ ∃ pA pB, a = .pointer (some ⟨pA, 0, none⟩) ∧ b = .pointer (some ⟨pB, 0, none⟩) ∧ Blk wc pA 54 #[.string q.name, .int .i64 q.next, .int .i64 q.now, .slice ka1 q.kept.length kc1] ∧ Blk wc pB 54 #[.string q.name, .int .i64 q.next, .int .i64 q.now, .slice ka2 q.kept.length kc2] ∧ Below wr.heap.size wr wc)
          case first =>
            go_region
            · go_wp2_with fail
              go_meet
              case rel => exact ⟨rfl, _, _, rfl, rfl, ((Blk.new _ _ _).kept (vbelow_new _ _)).drew, (Blk.new1 _ _ _ _).drew, (below_via (vbelow_new _ _) (vbelow_new _ _)).drew⟩
            · go_wp2_with fail
              go_meet
              case rel => exact ⟨rfl, _, _, rfl, rfl, (Blk.new1 _ _ _ _).drew, ((Blk.new _ _ _).kept (vbelow_new _ _)).drew, (below_via (vbelow_new _ _) (vbelow_new _ _)).drew⟩
          case rest =>
            obtain ⟨rfl, pA, pB, rfl, rfl, hcA, hcC, hcb⟩ := hcut
            have HB4 := hide (below_via (unhide HBr) hcb)
            have KR := hide (fun (wx : World) (hx : Below wc.heap.size wc wx) => And.intro (hcA.kept hx).at4 (hcC.kept hx).at4)
            have hB4 : B ≤ wc.heap.size := Nat.le_trans hBr hcb.size
            have hz0 := (unhide HBr).size
            have hwz : w.heap.size ≤ wr.heap.size := Nat.le_trans (unhide HB0).size hz0
            have HK1 := hide (fun (wx : World) (hx : Below wc.heap.size wc wx) => hk1.below (hcb.trans (hx.mono hcb.size)) fun x cs => VeM.below ((hcb.trans (hx.mono hcb.size)).mono hBr))
            have HK2 := hide (fun (wx : World) (hx : Below wc.heap.size wc wx) => hk2.below (hcb.trans (hx.mono hcb.size)) fun x cs => VeM.below ((hcb.trans (hx.mono hcb.size)).mono hBr))
            have gx : (q.next != q.next) = false := by simp
            have gw : (q.now != q.now) = false := by simp
            have gk : ((q.kept.length : Int) != (q.kept.length : Int)) = false := by simp
            have HKL := hide hk1.len
            have hw : IntKind.i64.wrap ((m : Int) + 1) = ((m + 1 : Nat) : Int) := by have := unhide HLE; rw [IntKind.wrap_i64]; omega
            clear hcb hcA hcC L1 L2 hk1 hk2 f1 f2 d0 d1 d2 d3 e0 e1 e2 e3 hq hBr HBr z1 z2 x0 x1 x2 xl y0 y1 y2 yl
            obtain ⟨⟨p0, p1, p2, p3, _, _, _, _, pl⟩, r0, r1, r2, r3, _, _, _, _, rl⟩ := unhide KR wc (Below.refl _ _)
            go_wp2_with fail
            clear p0 p1 p2 p3 r0 r1 r2 r3 pl rl
            go_loopw [98] (fun i wr => ∃ k : Nat, k ≤ q.kept.length ∧ i = .int .i64 (k : Int) ∧ Hid (Below wc.heap.size wc wr)) (fun i _ => q.kept.length - (intOf i).toNat)
            case atStart => exact ⟨0, Nat.zero_le _, rfl, hide (Below.refl _ _)⟩
            case round =>
              obtain ⟨k, hk, rfl, HBk⟩ := hrel
              obtain ⟨⟨p0, p1, p2, p3, _, _, _, _, pl⟩, r0, r1, r2, r3, _, _, _, _, rl⟩ := unhide KR wr (unhide HBk)
              by_cases hlk : k < q.kept.length
              · have hk1 : (k : Int) < (q.kept.length : Int) := by omega
                have hk0 : (0 : Int) ≤ (k : Int) := by omega
                obtain ⟨y, hy⟩ : ∃ y, q.kept[k]? = some y := ⟨_, List.getElem?_eq_getElem hlk⟩
                have hBk : B ≤ wr.heap.size := Nat.le_trans hB4 (unhide HBk).size
                have L1 := unhide HK1 wr (unhide HBk)
                have L2 := unhide HK2 wr (unhide HBk)
                obtain ⟨b1, off1, cp1, ev1⟩ := L1.begins (by intro e; rw [e] at hlk; simp at hlk)
                obtain ⟨b2, off2, cp2, ev2⟩ := L2.begins (by intro e; rw [e] at hlk; simp at hlk)
                cases ev1
                cases ev2
                obtain ⟨_, cs1, _, ⟨t10, t11, t12, t13, t14, rfl, M1⟩, f1⟩ := L1.at2 hy
                obtain ⟨_, cs2, _, ⟨t20, t21, t22, t23, t24, rfl, M2⟩, f2⟩ := L2.at2 hy
                have CB := hide (fun (wx : World) (hx : Below wr.heap.size wr wx) => sameTable_any y.table _ _ wx (Nat.le_trans hBk hx.size) (M1.below (hx.mono hBk)) (M2.below (hx.mono hBk)))
                obtain ⟨ia, oa, ra, ic, oc, rc, em1⟩ := M1.open
                obtain ⟨ja, pa, qa, jc, pc, qc, em2⟩ := M2.open
                simp at em1 em2
                obtain ⟨rfl, rfl, rfl, rfl, rfl⟩ := em1
                obtain ⟨rfl, rfl, rfl, rfl, rfl⟩ := em2
                have z1 := World.block_lt_of_cell? wr _ (f1 1 _ rfl)
                have z2 := World.block_lt_of_cell? wr _ (f2 1 _ rfl)
                have KQ := hide (fun (wx : World) (hx : Below wr.heap.size wr wx) => And.intro (row6_12 (fun j u hu => (hx.cell (p := ⟨b1, off1 + k * 6 + j, none⟩) z1).trans (f1 j u hu))) (And.intro (row6_12 (fun j u hu => (hx.cell (p := ⟨b2, off2 + k * 6 + j, none⟩) z2).trans (f2 j u hu))) (And.intro ((hx.cell (p := ⟨pA, 3, none⟩) pl).trans p3) ((hx.cell (p := ⟨pB, 3, none⟩) rl).trans r3))))
                obtain ⟨⟨d0, d1, d2, d3, d4, d5⟩, ⟨e0, e1, e2, e3, e4, e5⟩, _, _⟩ := unhide KQ wr (Below.refl _ _)
                have gy : (y.number != y.number) = false := by simp
                clear L1 L2 M1 M2 f1 f2 hy hBk z1 z2
                have hb := Below.refl wr.heap.size wr
                go_wp2_with fail
                go_region_held2 (fun w' => (w'.cell? ⟨b1, off1 + k * 6, none⟩ = some (.int .i64 y.number) ∧ w'.cell? ⟨b1, off1 + k * 6 + 1, none⟩ = some (.string y.table.name) ∧ w'.cell? ⟨b1, off1 + k * 6 + 2, none⟩ = some (.int .i64 y.table.pol) ∧ w'.cell? ⟨b1, off1 + k * 6 + 3, none⟩ = some (.slice ia y.table.ins.length ic) ∧ w'.cell? ⟨b1, off1 + k * 6 + 4, none⟩ = some (.slice oa y.table.outs.length oc) ∧ w'.cell? ⟨b1, off1 + k * 6 + 5, none⟩ = some (.slice ra y.table.rules.length rc)) ∧ (w'.cell? ⟨b2, off2 + k * 6, none⟩ = some (.int .i64 y.number) ∧ w'.cell? ⟨b2, off2 + k * 6 + 1, none⟩ = some (.string y.table.name) ∧ w'.cell? ⟨b2, off2 + k * 6 + 2, none⟩ = some (.int .i64 y.table.pol) ∧ w'.cell? ⟨b2, off2 + k * 6 + 3, none⟩ = some (.slice ja y.table.ins.length jc) ∧ w'.cell? ⟨b2, off2 + k * 6 + 4, none⟩ = some (.slice pa y.table.outs.length pc) ∧ w'.cell? ⟨b2, off2 + k * 6 + 5, none⟩ = some (.slice qa y.table.rules.length qc)) ∧ w'.cell? ⟨pA, 3, none⟩ = some (.slice (some ⟨b1, off1, none⟩) q.kept.length kc1) ∧ w'.cell? ⟨pB, 3, none⟩ = some (.slice (some ⟨b2, off2, none⟩) q.kept.length kc2))
                  (exact unhide KQ _ (by repeat (first | assumption | with_reducible exact Below.refl _ _ | with_reducible apply Below.drew)))
                  (((with_reducible refine (unhide CB _ ?_).mono ?_; · exact (by repeat (first | assumption | with_reducible exact Below.refl _ _ | with_reducible apply Below.drew))); rintro e w2 ⟨rfl, hb2⟩; replace hb : Below wr.heap.size wr w2 := below_via (by repeat (first | assumption | with_reducible exact Below.refl _ _ | with_reducible apply Below.drew)) hb2))
                all_goals
                  have HB5 := hide (below_via (unhide HBk) hb)
                  clear hb hb2 KQ d0 d1 d2 d3 d4 d5 e0 e1 e2 e3 e4 e5 CB HBk p0 p1 p2 p3 r0 r1 r2 r3
                  have hw : IntKind.i64.wrap ((k : Int) + 1) = ((k + 1 : Nat) : Int) := by have := unhide HKL; rw [IntKind.wrap_i64]; omega
                  go_wp2
                  go_roundw
                  case rel => exact ⟨k + 1, by omega, by first | rfl | go_num, HB5⟩
                  case measure => simp [intOf]; omega
              · obtain rfl : k = q.kept.length := by omega
                have HB6 := hide (below_via (unhide HB4) (unhide HBk))
                clear p0 p1 p2 p3 r0 r1 r2 r3 pl rl hlk hk HBk
                go_wp2
                go_roundw
                case rel => exact ⟨m + 1, by omega, by first | rfl | go_num, HB6⟩
                case measure => simp [intOf]; omega
        · obtain rfl : m = r.entries.length := by omega
          go_wp2
          go_ret
          exact ⟨rfl, below_via (unhide HB0) (unhide HBr)⟩
end Go.Proofs.YtnegjbkbfgkkjaaGreatDoor

/- Walks: a small table that is made by the law itself. -/
namespace Go.Proofs.YtnegjbkbfgkkjaaGreatDoor
open Go.RowKit Go.MapKept

def zeroV : Tree := .mk 0 false 0 0 ⟨#[]⟩ []
def smallT (s : ByteArray) (n : Int) : TbT := ⟨s, 4, [⟨⟨#[97]⟩, 3, []⟩], [⟨⟨#[111]⟩, 3, []⟩], [⟨[.mk 1 zeroV zeroV false false []], [.mk 1 (.mk 3 false n 0 ⟨#[]⟩ []) ⟨#[]⟩ []]⟩]⟩

/-- a row of one -/
theorem ls_one {α : Type} {B : Nat} {w : World} {k b : Nat} {T : TypeId} {R : α → Array Value → Prop} {x : α} {cs : Array Value} (h : Blk w b T cs) (hk : cs.size = k) (hR : R x cs) (hb : b < B) : Ls B w k R [x] (.slice (some ⟨b, 0, none⟩) 1 1) := by
  refine ⟨by simp, _, 1, rfl, ⟨by simp, by simp⟩, fun _ => ⟨b, 0, rfl, hb, fun i y hi => ?_⟩⟩
  have h0 : i = 0 := by have := (List.getElem?_eq_some_iff.1 hi).1; simp at this; exact this
  subst h0
  have : x = y := by simpa using hi
  subst this
  exact ⟨cs, hk, hR, fun j u hu => by rw [Nat.zero_mul, Nat.zero_add]; first | exact h.at j u hu | (rw [Nat.zero_add]; exact h.at j u hu)⟩
theorem zeroV_mem (B : Nat) (w : World) : Mem B w zeroV #[.int .i64 0, .bool false, .int .i64 0, .int .i64 0, .string ⟨#[]⟩, .slice none 0 0] := by
  unfold zeroV
  rw [Mem]
  exact ⟨Nat.zero_le _, Nat.zero_le _, none, 0, rfl, fun h => absurd rfl h⟩
theorem numV_mem (B : Nat) (w : World) (n : Int) : Mem B w (.mk 3 false n 0 ⟨#[]⟩ []) #[.int .i64 3, .bool false, .int .i64 n, .int .i64 0, .string ⟨#[]⟩, .slice none 0 0] := by
  rw [Mem]
  exact ⟨Nat.zero_le _, Nat.zero_le _, none, 0, rfl, fun h => absurd rfl h⟩
theorem small_mem {n0 : Nat} {w : World} {s : ByteArray} {n : Int} (hn : n0 + 6 ≤ w.heap.size)
    (X1 : Blk w (n0 + 1) 91 #[.string ⟨#[97]⟩, .int .i64 3, .slice none 0 0]) (X2 : Blk w (n0 + 1 + 1) 91 #[.string ⟨#[111]⟩, .int .i64 3, .slice none 0 0])
    (X3 : Blk w (n0 + 1 + 1 + 1) 83 #[.int .i64 1, .int .i64 0, .bool false, .int .i64 0, .int .i64 0, .string ⟨#[]⟩, .slice none 0 0, .int .i64 0, .bool false, .int .i64 0, .int .i64 0, .string ⟨#[]⟩, .slice none 0 0, .bool false, .bool false, .slice none 0 0])
    (X4 : Blk w (n0 + 1 + 1 + 1 + 1) 86 #[.int .i64 1, .int .i64 3, .bool false, .int .i64 n, .int .i64 0, .string ⟨#[]⟩, .slice none 0 0, .string ⟨#[]⟩, .slice none 0 0])
    (X5 : Blk w (n0 + 1 + 1 + 1 + 1 + 1) 75 #[.slice (some ⟨n0 + 1 + 1 + 1, 0, none⟩) 1 1, .slice (some ⟨n0 + 1 + 1 + 1 + 1, 0, none⟩) 1 1]) :
    TbM w.heap.size w (smallT s n) #[.string s, .int .i64 4, .slice (some ⟨n0 + 1, 0, none⟩) 1 1, .slice (some ⟨n0 + 1 + 1, 0, none⟩) 1 1, .slice (some ⟨n0 + 1 + 1 + 1 + 1 + 1, 0, none⟩) 1 1] := by
  have nilC : ∀ B, Ls B w 6 (Mem B w) [] (.slice none 0 0) := fun B => ⟨Nat.zero_le _, none, 0, rfl, ⟨Nat.le_refl _, Nat.zero_le _⟩, fun h => absurd rfl h⟩
  refine ⟨_, _, _, rfl, ls_one X1 rfl ⟨_, rfl, nilC _⟩ (by omega), ls_one X2 rfl ⟨_, rfl, nilC _⟩ (by omega), ls_one X5 rfl ⟨_, _, rfl, ls_one X3 rfl ?_ (by omega), ls_one X4 rfl ?_ (by omega)⟩ (by omega)⟩
  · rw [MemS]
    exact ⟨Nat.zero_le _, _, _, _, _, _, _, _, _, _, _, _, _, none, 0, zeroV_mem _ _, zeroV_mem _ _, rfl, fun h => absurd rfl h⟩
  · rw [XMem]
    exact ⟨Nat.zero_le _, Nat.zero_le _, _, _, _, _, _, _, _, _, none, 0, rfl, numV_mem _ _ _, fun h => absurd rfl h⟩

set_option maxRecDepth 100000 in
set_option maxHeartbeats 8000000 in
theorem small_any (s : ByteArray) (n : Int) (w : World) : Calls Tryz.prog 16 #[.string s, .int .i64 n] w fun e w' => ∃ cs, e = .returned (.agg cs) ∧ TbM w'.heap.size w' (smallT s n) cs ∧ Below w.heap.size w w' := by
  go_enter Tryz.func16, Tryz.ntmps16
  go_wp2_with fail
  obtain ⟨W1, h1⟩ : ∃ W1, W1 = w.alloc (.cells #[.string s, .int .i64 4, .slice (some ⟨w.heap.size + 1, 0, none⟩) 1 1, .slice (some ⟨w.heap.size + 1 + 1, 0, none⟩) 1 1, .slice (some ⟨w.heap.size + 1 + 1 + 1 + 1 + 1, 0, none⟩) 1 1] 34) := ⟨_, rfl⟩
  obtain ⟨W2, h2⟩ : ∃ W2, W2 = W1.alloc (.cells #[.string ⟨#[97]⟩, .int .i64 3, .slice none 0 0] 91) := ⟨_, rfl⟩
  obtain ⟨W3, h3⟩ : ∃ W3, W3 = W2.alloc (.cells #[.string ⟨#[111]⟩, .int .i64 3, .slice none 0 0] 91) := ⟨_, rfl⟩
  obtain ⟨W4, h4⟩ : ∃ W4, W4 = W3.alloc (.cells #[.int .i64 1, .int .i64 0, .bool false, .int .i64 0, .int .i64 0, .string ⟨#[]⟩, .slice none 0 0, .int .i64 0, .bool false, .int .i64 0, .int .i64 0, .string ⟨#[]⟩, .slice none 0 0, .bool false, .bool false, .slice none 0 0] 83) := ⟨_, rfl⟩
  obtain ⟨W5, h5⟩ : ∃ W5, W5 = W4.alloc (.cells #[.int .i64 1, .int .i64 3, .bool false, .int .i64 n, .int .i64 0, .string ⟨#[]⟩, .slice none 0 0, .string ⟨#[]⟩, .slice none 0 0] 86) := ⟨_, rfl⟩
  obtain ⟨W6, h6⟩ : ∃ W6, W6 = W5.alloc (.cells #[.slice (some ⟨w.heap.size + 1 + 1 + 1, 0, none⟩) 1 1, .slice (some ⟨w.heap.size + 1 + 1 + 1 + 1, 0, none⟩) 1 1] 75) := ⟨_, rfl⟩
  rw [← h1, ← h2, ← h3, ← h4, ← h5, ← h6]
  have z1 : W1.heap.size = w.heap.size + 1 := by rw [h1]; simp
  have z2 : W2.heap.size = w.heap.size + 1 + 1 := by rw [h2]; simp [z1]
  have z3 : W3.heap.size = w.heap.size + 1 + 1 + 1 := by rw [h3]; simp [z2]
  have z4 : W4.heap.size = w.heap.size + 1 + 1 + 1 + 1 := by rw [h4]; simp [z3]
  have z5 : W5.heap.size = w.heap.size + 1 + 1 + 1 + 1 + 1 := by rw [h5]; simp [z4]
  have z6 : W6.heap.size = w.heap.size + 6 := by rw [h6]; simp [z5]
  have b1 : Below w.heap.size w W1 := by rw [h1]; exact vbelow_new _ _
  have b2 : Below W1.heap.size W1 W2 := by rw [h2]; exact vbelow_new _ _
  have b3 : Below W2.heap.size W2 W3 := by rw [h3]; exact vbelow_new _ _
  have b4 : Below W3.heap.size W3 W4 := by rw [h4]; exact vbelow_new _ _
  have b5 : Below W4.heap.size W4 W5 := by rw [h5]; exact vbelow_new _ _
  have b6 : Below W5.heap.size W5 W6 := by rw [h6]; exact vbelow_new _ _
  have X1 : Blk W6 (w.heap.size + 1) 91 #[.string ⟨#[97]⟩, .int .i64 3, .slice none 0 0] := by rw [← z1]; exact ((((show Blk W2 W1.heap.size _ _ by rw [h2]; exact Blk.new _ _ _).kept b3).kept b4).kept b5).kept b6
  have X2 : Blk W6 (w.heap.size + 1 + 1) 91 #[.string ⟨#[111]⟩, .int .i64 3, .slice none 0 0] := by rw [← z2]; exact (((show Blk W3 W2.heap.size _ _ by rw [h3]; exact Blk.new _ _ _).kept b4).kept b5).kept b6
  have X3 : Blk W6 (w.heap.size + 1 + 1 + 1) 83 #[.int .i64 1, .int .i64 0, .bool false, .int .i64 0, .int .i64 0, .string ⟨#[]⟩, .slice none 0 0, .int .i64 0, .bool false, .int .i64 0, .int .i64 0, .string ⟨#[]⟩, .slice none 0 0, .bool false, .bool false, .slice none 0 0] := by rw [← z3]; exact ((show Blk W4 W3.heap.size _ _ by rw [h4]; exact Blk.new _ _ _).kept b5).kept b6
  have X4 : Blk W6 (w.heap.size + 1 + 1 + 1 + 1) 86 #[.int .i64 1, .int .i64 3, .bool false, .int .i64 n, .int .i64 0, .string ⟨#[]⟩, .slice none 0 0, .string ⟨#[]⟩, .slice none 0 0] := by rw [← z4]; exact (show Blk W5 W4.heap.size _ _ by rw [h5]; exact Blk.new _ _ _).kept b6
  have X5 : Blk W6 (w.heap.size + 1 + 1 + 1 + 1 + 1) 75 #[.slice (some ⟨w.heap.size + 1 + 1 + 1, 0, none⟩) 1 1, .slice (some ⟨w.heap.size + 1 + 1 + 1 + 1, 0, none⟩) 1 1] := by
    have : Blk W6 W5.heap.size 75 #[.slice (some ⟨w.heap.size + 1 + 1 + 1, 0, none⟩) 1 1, .slice (some ⟨w.heap.size + 1 + 1 + 1 + 1, 0, none⟩) 1 1] := by rw [h6]; exact Blk.new _ _ _
    rw [z5] at this
    exact this
  have X0 : Blk W6 w.heap.size 34 #[.string s, .int .i64 4, .slice (some ⟨w.heap.size + 1, 0, none⟩) 1 1, .slice (some ⟨w.heap.size + 1 + 1, 0, none⟩) 1 1, .slice (some ⟨w.heap.size + 1 + 1 + 1 + 1 + 1, 0, none⟩) 1 1] := ((((((show Blk W1 w.heap.size _ _ by rw [h1]; exact Blk.new _ _ _).kept b2).kept b3).kept b4).kept b5).kept b6)
  have bw : Below w.heap.size w W6 := below_via (below_via (below_via (below_via (below_via b1 b2) b3) b4) b5) b6
  have TM := small_mem (s := s) (n := n) (by omega) X1 X2 X3 X4 X5
  obtain ⟨q0, q1, q2, q3, q4, _⟩ := X0.at5
  exact bodyPost_ret (v := .agg #[.string s, .int .i64 4, .slice (some ⟨w.heap.size + 1, 0, none⟩) 1 1, .slice (some ⟨w.heap.size + 1 + 1, 0, none⟩) 1 1, .slice (some ⟨w.heap.size + 1 + 1 + 1 + 1 + 1, 0, none⟩) 1 1]) (by simp [results, Tryz.results16, go_sem, q0, q1, q2, q3, q4]) rfl ⟨_, rfl, TM, bw⟩
end Go.Proofs.YtnegjbkbfgkkjaaGreatDoor

/- The law's own run is alive. -/
namespace Go.Proofs.YtnegjbkbfgkkjaaGreatDoor
open Go.RowKit Go.MapKept

def cmd1 : CmT := ⟨1, 1, 1, smallT ⟨#[116]⟩ 7, ⟨#[]⟩, 0⟩
theorem run1 : (runN [cmd1]).1.entries.length = 1 ∧ (runN [cmd1]).1.applied = 1 ∧ (runN [cmd1]).2 = [⟨0, 1⟩] := by
  have e : tabW (smallT ⟨#[116]⟩ 7) = 0 := by kernel_rfl
  have d : deployF [] (smallT ⟨#[116]⟩ 7) = (Rp.putE ltN [] (Rp.withNext ⟨⟨#[116]⟩, 1, 0, []⟩ (smallT ⟨#[116]⟩ 7)), ⟨0, 1⟩) := by
    unfold deployF
    rw [e]
    rfl
  have dn : doneN [] cmd1 = (Rp.putE ltN [] (Rp.withNext ⟨⟨#[116]⟩, 1, 0, []⟩ (smallT ⟨#[116]⟩ 7)), ⟨0, 1⟩) := by
    rw [doneN_eq, if_pos (show cmd1.kind = 1 from rfl)]
    exact d
  have a : applyN Rp.empty cmd1 = (⟨(doneN [] cmd1).1, Rp.seated [] ⟨1, 1, (doneN [] cmd1).2⟩, 0 + 1⟩, (doneN [] cmd1).2) := applyN_new (r := Rp.empty) (p := ⟨0, 0⟩) (by decide) rfl
  have r : runN [cmd1] = ((applyN Rp.empty cmd1).1, [(applyN Rp.empty cmd1).2]) := rfl
  rw [r, a, dn]
  exact ⟨rfl, rfl, rfl⟩

theorem GdT.up12 {B B' : Nat} {w : World} (h : GdT B w) (hb : B ≤ B') : GdT B' w := ⟨fun W k => h.lt W (k.mono hb), fun W k => h.sg W (k.mono hb), h.tb.mono hb⟩

set_option maxRecDepth 100000 in
set_option maxHeartbeats 8000000 in
theorem alive_any {B0 : Nat} (w : World) (hB : B0 ≤ w.heap.size) (hG : GdT B0 w) : Calls Tryz.prog 8 #[] w fun e w' => e = .returned (.bool true) ∧ Below w.heap.size w w' := by
  have SM := hide (small_any ⟨#[116]⟩ 7 w)
  have HG := hide hG
  clear hG
  go_enter Tryz.func8, Tryz.ntmps8
  go_wp2_with fail
  refine (unhide SM).mono ?_
  rintro e w1 ⟨cs, rfl, hT, hb1⟩
  obtain ⟨ia, oa, ra, ic, oc, rc, rfl⟩ := hT.open
  obtain ⟨w2, hw2⟩ : ∃ w2, w2 = w1.alloc (.cells #[.int .i64 1, .int .i64 1, .int .i64 1, .string (smallT ⟨#[116]⟩ 7).name, .int .i64 (smallT ⟨#[116]⟩ 7).pol, .slice ia (smallT ⟨#[116]⟩ 7).ins.length ic, .slice oa (smallT ⟨#[116]⟩ 7).outs.length oc, .slice ra (smallT ⟨#[116]⟩ 7).rules.length rc, .string ⟨#[]⟩, .int .i64 0] 36) := ⟨_, rfl⟩
  have hb2 : Below w1.heap.size w1 w2 := by rw [hw2]; exact vbelow_new _ _
  have X2 : Blk w2 w1.heap.size 36 #[.int .i64 1, .int .i64 1, .int .i64 1, .string (smallT ⟨#[116]⟩ 7).name, .int .i64 (smallT ⟨#[116]⟩ 7).pol, .slice ia (smallT ⟨#[116]⟩ 7).ins.length ic, .slice oa (smallT ⟨#[116]⟩ 7).outs.length oc, .slice ra (smallT ⟨#[116]⟩ 7).rules.length rc, .string ⟨#[]⟩, .int .i64 0] := by rw [hw2]; exact Blk.new _ _ _
  have hl : Ls w2.heap.size w2 10 (CmM w2.heap.size w2) [cmd1] (.slice (some ⟨w1.heap.size, 0, none⟩) 1 1) := ls_one X2 rfl ⟨_, _, _, _, _, rfl, (hT.below hb2).mono hb2.size⟩ X2.low
  have RN := hide (run_any [cmd1] _ w2 (Nat.le_refl _) (((unhide HG).keep ((hb1.trans (hb2.mono hb1.size)).mono hB)).up12 (Nat.le_trans hB (hb1.trans (hb2.mono hb1.size)).size)) hl (by decide))
  have HB2 := hide (hb1.trans (hb2.mono hb1.size))
  obtain ⟨rn1, rn2, rn3⟩ := run1
  have HRN := hide (And.intro rn1 (And.intro rn2 rn3))
  clear hT hb1 hb2 X2 hl rn1 rn2 rn3 SM
  go_wp2_with fail
  rw [← hw2]
  clear hw2
  refine (unhide RN).mono ?_
  rintro e w3 ⟨ev, tv, rv, rfl, hrw, hown, hb3⟩
  obtain ⟨xa, xc, ya, yc, rfl, rfl⟩ := hrw.shape
  obtain ⟨ra', rc', hrv⟩ := own_slice12 hown
  obtain ⟨rn1, rn2, rn3⟩ := unhide HRN
  rw [rn3] at hown
  rw [rn1, rn2]
  have hown' : w3.ownsRow w2.heap.size 39 2 rv [(⟨0, 1⟩ : Rp.Reply)].length ([(⟨0, 1⟩ : Rp.Reply)].flatMap repC) := hown
  obtain ⟨g, off, cap, ev⟩ := (ls_replies hown').begins (by simp)
  subst hrv
  cases ev
  obtain ⟨_, cs, _, rfl, f⟩ := (ls_replies hown').at2 (i := 0) rfl
  have d0 := f 0 _ rfl
  have d1 := f 1 _ rfl
  rw [Nat.zero_mul, Nat.add_zero] at d0
  rw [Nat.zero_mul, Nat.add_zero] at d1
  have HB3 := hide (below_via (unhide HB2) hb3)
  clear hrw hown hown' f hb3 RN HRN rn1 rn2 rn3
  go_wp2_with fail
  refine bodyPost_ret (v := .bool true) (by simp [results, Tryz.results8, go_sem]) rfl ⟨rfl, ?_⟩
  exact below_via (unhide HB3) (vbelow_new _ _)
end Go.Proofs.YtnegjbkbfgkkjaaGreatDoor
