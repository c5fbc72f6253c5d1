/- Reading a test: no sign comes next. -/
import Derived.Test.YtcidbhegnnedoaaGreatDoorG16
import Derived.BigRegion
import Derived.Deep.RegionWith
import Derived.Test.YtcidbhegnnedoaaGreatDoorG09
namespace Go.Proofs.YtcidbhegnnedoaaGreatDoor
open Go.RowKit

/-- the signs of tests lie -/
def tsA : Array Value := #[.string ⟨#[60]⟩, .int .i64 3, .string ⟨#[60, 61]⟩, .int .i64 4, .string ⟨#[62]⟩, .int .i64 5, .string ⟨#[62, 61]⟩, .int .i64 6]
def TSG (w : World) : Prop := ∀ i v, tsA[i]? = some v → w.cell? ⟨6, i, none⟩ = some v
theorem TSG.lt {w : World} (h : TSG w) : 6 < w.heap.size := World.block_lt_of_cell? w _ (h 0 _ rfl)
theorem TSG.on {w W : World} (h : TSG w) (hb : Below w.heap.size w W) : TSG W := fun i v hv => (hb.cell (p := ⟨6, i, none⟩) h.lt).trans (h i v hv)

def tsS : Nat → ByteArray
  | 0 => ⟨#[60]⟩
  | 1 => ⟨#[60, 61]⟩
  | 2 => ⟨#[62]⟩
  | _ => ⟨#[62, 61]⟩

set_option maxRecDepth 100000 in
set_option maxHeartbeats 8000000 in
theorem sign_no (R g i : Nat) (e : Int) (l : List Tk) (w : World) (h : WK w R g l.length i e) (hT : TKS w g l) (hG : TSG w) (hl : l.length ≤ 4000) (hS : ∀ m, seesL l i [tsS m] = false) :
    Calls Tryz.prog 90 #[.pointer (some ⟨R, 0, none⟩)] w fun r w' => r = .returned (.tuple #[.agg #[.string ⟨#[]⟩, .int .i64 0], .bool false]) ∧ Below w.heap.size w w' := by
  have lR := h.low
  have C := hide (fun (W : World) (hb : Below w.heap.size w W) (P m : Nat) (hP : W.heap.size = P) => by
    have q := sees_lit R g i e l (tsS m) P W hP (h.keep hb h.low) (hT.keep hb hT.low) hl
    rw [hS m] at q
    exact q)
  have g0 : w.cell? ⟨6, 0, none⟩ = some (.string ⟨#[60]⟩) := hG 0 _ rfl
  have g1 : w.cell? ⟨6, 1, none⟩ = some (.int .i64 3) := hG 1 _ rfl
  have g2 : w.cell? ⟨6, 2, none⟩ = some (.string ⟨#[60, 61]⟩) := hG 2 _ rfl
  have g3 : w.cell? ⟨6, 3, none⟩ = some (.int .i64 4) := hG 3 _ rfl
  have g4 : w.cell? ⟨6, 4, none⟩ = some (.string ⟨#[62]⟩) := hG 4 _ rfl
  have g5 : w.cell? ⟨6, 5, none⟩ = some (.int .i64 5) := hG 5 _ rfl
  have g6 : w.cell? ⟨6, 6, none⟩ = some (.string ⟨#[62, 61]⟩) := hG 6 _ rfl
  have g7 : w.cell? ⟨6, 7, none⟩ = some (.int .i64 6) := hG 7 _ rfl
  have lG := hG.lt
  clear h hT hG hS
  go_enter Tryz.func90, Tryz.ntmps90
  go_wp2
  go_loopw [7] (fun x wr => ∃ m : Nat, m ≤ 4 ∧ x = .int .i64 (m : Int) ∧ Hid (Below (w.alloc (.cells #[.string ⟨#[]⟩, .int .i64 0] 161)).heap.size (w.alloc (.cells #[.string ⟨#[]⟩, .int .i64 0] 161)) wr)) (fun x _ => 4 - (intOf x).toNat)
  case atStart => exact ⟨0, by omega, rfl, hide (Below.refl _ _)⟩
  case round =>
    obtain ⟨m, hm, rfl, HB⟩ := hrel
    clear g0 g1 g2 g3 g4 g5 g6 g7 lG
    rcases (by omega : m = 0 ∨ m = 1 ∨ m = 2 ∨ m = 3 ∨ m = 4) with rfl | rfl | rfl | rfl | rfl
    · have HA := hide (bv (unhide HB) (vbelow_new wr (.cells #[.string ⟨#[60]⟩, .int .i64 3] 161)))
      have ix : Sem.run Tryz.prog (Instr.index 184 (.agg #[.string ⟨#[60]⟩, .int .i64 3, .string ⟨#[60, 61]⟩, .int .i64 4, .string ⟨#[62]⟩, .int .i64 5, .string ⟨#[62, 61]⟩, .int .i64 6]) (.int .i64 0)) wr = .ok (.agg #[.string ⟨#[60]⟩, .int .i64 3]) wr := by simp [Instr.index, go_sem]
      have CM := hide (fun (W : World) (hb : Below w.heap.size w W) (P : Nat) (hP : W.heap.size = P) => unhide C W hb P 0 hP)
      go_wp2_with fail
      go_region_with (
        go_at_call 69
        refine (unhide CM _ (bv (vbelow_new w _) (unhide HA)).drew _ (by simp)).mono ?_
        rintro r w2 ⟨rfl, hb2⟩)
      have HB2 := hide (bv (unhide HA).drew hb2)
      clear hb2 CM HA ix
      go_wp2
      go_round
      case rel => exact ⟨1, by omega, rfl, HB2⟩
      case measure => simp [intOf]
    · have HA := hide (bv (unhide HB) (vbelow_new wr (.cells #[.string ⟨#[60, 61]⟩, .int .i64 4] 161)))
      have ix : Sem.run Tryz.prog (Instr.index 184 (.agg #[.string ⟨#[60]⟩, .int .i64 3, .string ⟨#[60, 61]⟩, .int .i64 4, .string ⟨#[62]⟩, .int .i64 5, .string ⟨#[62, 61]⟩, .int .i64 6]) (.int .i64 1)) wr = .ok (.agg #[.string ⟨#[60, 61]⟩, .int .i64 4]) wr := by simp [Instr.index, go_sem]
      have CM := hide (fun (W : World) (hb : Below w.heap.size w W) (P : Nat) (hP : W.heap.size = P) => unhide C W hb P 1 hP)
      go_wp2_with fail
      go_region_with (
        go_at_call 69
        refine (unhide CM _ (bv (vbelow_new w _) (unhide HA)).drew _ (by simp)).mono ?_
        rintro r w2 ⟨rfl, hb2⟩)
      have HB2 := hide (bv (unhide HA).drew hb2)
      clear hb2 CM HA ix
      go_wp2
      go_round
      case rel => exact ⟨2, by omega, rfl, HB2⟩
      case measure => simp [intOf]
    · have HA := hide (bv (unhide HB) (vbelow_new wr (.cells #[.string ⟨#[62]⟩, .int .i64 5] 161)))
      have ix : Sem.run Tryz.prog (Instr.index 184 (.agg #[.string ⟨#[60]⟩, .int .i64 3, .string ⟨#[60, 61]⟩, .int .i64 4, .string ⟨#[62]⟩, .int .i64 5, .string ⟨#[62, 61]⟩, .int .i64 6]) (.int .i64 2)) wr = .ok (.agg #[.string ⟨#[62]⟩, .int .i64 5]) wr := by simp [Instr.index, go_sem]
      have CM := hide (fun (W : World) (hb : Below w.heap.size w W) (P : Nat) (hP : W.heap.size = P) => unhide C W hb P 2 hP)
      go_wp2_with fail
      go_region_with (
        go_at_call 69
        refine (unhide CM _ (bv (vbelow_new w _) (unhide HA)).drew _ (by simp)).mono ?_
        rintro r w2 ⟨rfl, hb2⟩)
      have HB2 := hide (bv (unhide HA).drew hb2)
      clear hb2 CM HA ix
      go_wp2
      go_round
      case rel => exact ⟨3, by omega, rfl, HB2⟩
      case measure => simp [intOf]
    · have HA := hide (bv (unhide HB) (vbelow_new wr (.cells #[.string ⟨#[62, 61]⟩, .int .i64 6] 161)))
      have ix : Sem.run Tryz.prog (Instr.index 184 (.agg #[.string ⟨#[60]⟩, .int .i64 3, .string ⟨#[60, 61]⟩, .int .i64 4, .string ⟨#[62]⟩, .int .i64 5, .string ⟨#[62, 61]⟩, .int .i64 6]) (.int .i64 3)) wr = .ok (.agg #[.string ⟨#[62, 61]⟩, .int .i64 6]) wr := by simp [Instr.index, go_sem]
      have CM := hide (fun (W : World) (hb : Below w.heap.size w W) (P : Nat) (hP : W.heap.size = P) => unhide C W hb P 3 hP)
      go_wp2_with fail
      go_region_with (
        go_at_call 69
        refine (unhide CM _ (bv (vbelow_new w _) (unhide HA)).drew _ (by simp)).mono ?_
        rintro r w2 ⟨rfl, hb2⟩)
      have HB2 := hide (bv (unhide HA).drew hb2)
      clear hb2 CM HA ix
      go_wp2
      go_round
      case rel => exact ⟨4, by omega, rfl, HB2⟩
      case measure => simp [intOf]
    · have XR := (BkA.new (w := w) (t := 161) (u := #[.string ⟨#[]⟩, .int .i64 0])).keep (unhide HB) (by simp)
      have x0 := XR.cell 0 _ rfl
      have x1 := XR.cell 1 _ rfl
      have fx := XR.free
      have lx := XR.low
      have HW := hide (bv (vbelow_new w _) (unhide HB))
      clear XR
      go_wp2
      exact bodyPost_ret (v := .tuple #[.agg #[.string ⟨#[]⟩, .int .i64 0], .bool false]) (by simp [results, Tryz.results90, go_sem, x0, x1]) rfl ⟨rfl, ((unhide HW).setCell (Nat.le_refl _) _).setCell (Nat.le_refl _) _⟩
end Go.Proofs.YtcidbhegnnedoaaGreatDoor

/- Reading a test: a test that is one span. -/
namespace Go.Proofs.YtcidbhegnnedoaaGreatDoor
open Go.RowKit

abbrev spanA (t1 t2 : Tk) (oa ob : Bool) : Array Value := #[.int .i64 7, .int .i64 3, .bool false, .int .i64 t1.c, .int .i64 t1.x, .string ⟨#[]⟩, .slice none 0 0, .int .i64 3, .bool false, .int .i64 t2.c, .int .i64 t2.x, .string ⟨#[]⟩, .slice none 0 0, .bool oa, .bool ob, .slice none 0 0]
abbrev zeroT : Array Value := #[.int .i64 0, .int .i64 0, .bool false, .int .i64 0, .int .i64 0, .string ⟨#[]⟩, .slice none 0 0, .int .i64 0, .bool false, .int .i64 0, .int .i64 0, .string ⟨#[]⟩, .slice none 0 0, .bool false, .bool false, .slice none 0 0]

/-- the tokens from the i-th one on: a bracket, a number, two points, a number, a round bracket -/
structure SPN (l : List Tk) (i : Nat) (t1 t2 : Tk) : Prop where
  sg : ∀ m, seesL l i [tsS m] = false
  op : seesL l i [⟨#[91]⟩] = true
  ro : seesL l i [⟨#[40]⟩] = false
  n1 : l[i + 1]? = some t1
  k1 : t1.k = 2
  dd : seesL l (i + 2) [⟨#[46, 46]⟩] = true
  n2 : l[i + 3]? = some t2
  k2 : t2.k = 2
  cl : seesL l (i + 4) [⟨#[41]⟩] = true

theorem but16 {b : Nat} {w : World} {v0 v1 v2 v3 v4 v5 v6 v7 v8 v9 v10 v11 v12 v13 v14 v15 : Value} :
    But b w ((((((((((((((((w.setCell ⟨b, 0, none⟩ v0).setCell ⟨b, 1, none⟩ v1).setCell ⟨b, 2, none⟩ v2).setCell ⟨b, 3, none⟩ v3).setCell ⟨b, 4, none⟩ v4).setCell ⟨b, 5, none⟩ v5).setCell ⟨b, 6, none⟩ v6).setCell ⟨b, 7, none⟩ v7).setCell ⟨b, 8, none⟩ v8).setCell ⟨b, 9, none⟩ v9).setCell ⟨b, 10, none⟩ v10).setCell ⟨b, 11, none⟩ v11).setCell ⟨b, 12, none⟩ v12).setCell ⟨b, 13, none⟩ v13).setCell ⟨b, 14, none⟩ v14).setCell ⟨b, 15, none⟩ v15) :=
  (((((((((((((((But.set.trans But.set).trans But.set).trans But.set).trans But.set).trans But.set).trans But.set).trans But.set).trans But.set).trans But.set).trans But.set).trans But.set).trans But.set).trans But.set).trans But.set).trans But.set)

set_option maxRecDepth 10000 in
set_option maxHeartbeats 8000000 in
theorem test_span (R g i : Nat) (e : Int) (l : List Tk) (t1 t2 : Tk) (w : World) (h : WK w R g l.length i e) (hT : TKS w g l) (hg : g ≠ R) (hG : TSG w) (hl : l.length ≤ 4000) (S : SPN l i t1 t2) :
    Calls Tryz.prog 71 #[.pointer (some ⟨R, 0, none⟩)] w fun r w' => r = .returned (.tuple #[.agg (spanA t1 t2 false true), .nilIface]) ∧ WK w' R g l.length (i + 5) e ∧ But R w w' := by
  have lR := h.low
  have lg := hT.low
  have K0 := hide (fun (W : World) (hb : Below w.heap.size w W) => sign_no R g i e l W (h.keep hb lR) (hT.keep hb lg) (hG.on hb) hl S.sg)
  have K1 := hide (fun (W : World) (hb : Below w.heap.size w W) (P : Nat) (hP : W.heap.size = P) => sees_lit R g i e l ⟨#[91]⟩ P W hP (h.keep hb lR) (hT.keep hb lg) hl)
  rw [S.op] at K1
  have K2 := hide (fun (W : World) (hb : Below w.heap.size w W) => span_any R g i e l t1 t2 false W (h.keep hb lR) (hT.keep hb lg) hg hl S.ro S.n1 S.k1 S.dd S.n2 S.k2 S.cl)
  clear h hT hG S
  go_enter Tryz.func71, Tryz.ntmps71
  go_wp2_with fail
  refine (unhide K0 _ (vbelow_new w _)).mono ?_
  rintro r w1 ⟨rfl, b1⟩
  have b1' := bv b1 (vbelow_new w1 (.cells #[.string ⟨#[]⟩, .int .i64 0] 161))
  have XR := hide ((BkA.new (w := w) (t := 29) (u := zeroT)).keep b1' (by simp))
  have HB := hide (bv (vbelow_new w _) b1')
  clear b1 b1' K0
  go_wp2_with fail
  refine (unhide K1 _ (unhide HB) _ (by simp)).mono ?_
  rintro r w2 ⟨rfl, b2⟩
  replace XR := hide ((unhide XR).keep b2 (unhide XR).low)
  replace HB := hide (bv (unhide HB) b2)
  clear b2 K1
  go_wp2_with fail
  refine (unhide K2 _ (unhide HB)).mono ?_
  rintro r w3 ⟨rfl, k3, b3⟩
  have HW := hide k3
  replace XR := hide ((unhide XR).but b3 (by omega))
  have HB3 := hide ((But.of (p := R) (unhide HB)).trans b3)
  clear k3 b3 K2 HB
  obtain ⟨y0, y1, y2, y3, y4, y5, y6, y7, y8, y9, y10, y11, y12, y13, y14, y15⟩ := (unhide XR).tell
  have fy := (unhide XR).free
  have ly := (unhide XR).low
  have lwe := (unhide HB3).size
  clear XR
  go_wp2
  refine bodyPost_ret (v := .tuple #[.agg (spanA t1 t2 false true), .nilIface]) (by simp [results, Tryz.results71, go_sem, y0, y1, y2, y3, y4, y5, y6, y7, y8, y9, y10, y11, y12, y13, y14, y15]) rfl ⟨rfl, (unhide HW).but but16 (by omega), (unhide HB3).on (but16.below (Nat.le_refl _) lwe)⟩
end Go.Proofs.YtcidbhegnnedoaaGreatDoor

/- Reading a test: a list of one test. -/
namespace Go.Proofs.YtcidbhegnnedoaaGreatDoor
open Go.RowKit

theorem info_test : (Tryz.prog.info? 29).map (fun i => (i.zero, i.size, i.bytes)) = some (some (.agg zeroT), 16, 184) := by kernel_rfl
theorem cell_new_any (W : World) (t : TypeId) (a : Array Value) : ∀ j u, a.toList[j]? = some u → (W.alloc (.cells a t)).cell? ((⟨W.heap.size, 0, none⟩ : Addr).add j) = some u := by
  intro j u h
  rw [Lib.add_plain]
  have h' : a[j]? = some u := by simpa using h
  simp [go_sem, h']

set_option maxRecDepth 10000 in
set_option maxHeartbeats 8000000 in
theorem list_one (R g i : Nat) (e : Int) (l : List Tk) (t1 t2 : Tk) (w : World) (h : WK w R g l.length i e) (hT : TKS w g l) (hg : g ≠ R) (hG : TSG w) (hl : l.length ≤ 4000) (S : SPN l i t1 t2) (hn : l.length = i + 5) :
    Calls Tryz.prog 51 #[.pointer (some ⟨R, 0, none⟩)] w fun r w' => ∃ b cap, r = .returned (.tuple #[.slice (some ⟨b, 0, none⟩) 1 cap, .nilIface]) ∧ w.heap.size ≤ b ∧ B16 w' b (spanA t1 t2 false true) ∧ WK w' R g l.length (i + 5) e ∧ But R w w' := by
  have lR := h.low
  have lg := hT.low
  have K0 := hide (test_span R g i e l t1 t2 w h hT hg hG hl S)
  have HT := hide hT
  have hZ : seesL l (i + 5) [⟨#[44]⟩] = false := seesL_short l _ _ (by simp; omega)
  have HZ := hide hZ
  clear h hT hG S hZ
  go_enter Tryz.func51, Tryz.ntmps51
  go_wp2
  go_loopw [4] (fun x wr => x = .slice none 0 0 ∧ wr = w) (fun _ _ => 0)
  case atStart => exact ⟨rfl, rfl⟩
  case round =>
    obtain ⟨rfl, rfl⟩ := hrel
    go_wp2_with fail
    refine (unhide K0).mono ?_
    rintro r w1 ⟨rfl, k1, b1⟩
    have HW := hide k1
    have HB := hide b1
    have HT1 := hide ((unhide HT).but b1 hg)
    have l1 := b1.size
    clear k1 b1 K0 HT
    obtain ⟨i0, hi, hz0, hz1, hz2⟩ := info_parts info_test
    have HI := hide (And.intro hi (And.intro hz0 (And.intro hz1 hz2)))
    clear hi hz0 hz1 hz2
    go_wp2_with (at_builtin; refine wpList_append_own _ rfl _ _ 27 rfl (w1.heap.size + 1 + 1) 29 i0 (.agg zeroT) 16 184 Tryz.underlying27 (unhide HI).1 (unhide HI).2.1 (unhide HI).2.2.1 (unhide HI).2.2.2 rfl (by decide) _ _ _ rfl (World.ownsRow_nil _ _ _ _) ⟨w1.heap.size + 1, 0, none⟩ 1 1 (spanA t1 t2 false true).toList rfl rfl ?c1 ?c2 ?c3 ?c4 ?c5 ?_)
    case c2 => exact ⟨rfl, rfl, rfl, rfl, rfl, rfl, rfl, rfl, rfl, rfl, rfl, rfl, rfl, rfl, rfl, rfl⟩
    case c3 => unfold maxLen; omega
    case c4 => omega
    case c5 => simp
    intro v' w3 hown hgrow hnil
    have GB : Below (w1.heap.size + 1 + 1) ((w1.alloc (.cells (spanA t1 t2 false true) 29)).alloc (.cells (spanA t1 t2 false true) 29)) w3 := (Below.refl _ _).grown hgrow (by simp) (fun k hk => by cases hk)
    rcases hown.2 with ⟨_, h0⟩ | ⟨gb, cap, cur, hv, hgB, hh, q1, q2, q3, q4⟩
    · cases h0
    subst hv
    have XB : B16 w3 gb (spanA t1 t2 false true) := ⟨lt_of_block hh, fun j x hx => by
      have hx' : (spanA t1 t2 false true).toList[j]? = some x := by simpa using hx
      have q5 : cur.toList.take (1 * 16) = (spanA t1 t2 false true).toList := q4
      rw [← q5, List.getElem?_take] at hx'
      split at hx'
      · simp [World.cell?, hh]
        simpa using hx'
      · cases hx'⟩
    have b2 : But R w1 w3 := (But.of (bv (vbelow_new w1 _) (vbelow_new _ _))).trans (But.of (by simpa using GB))
    have l3 : wr.heap.size ≤ gb := by omega
    replace HB := hide ((unhide HB).trans b2)
    replace HW := hide ((unhide HW).keep (bv (bv (vbelow_new w1 _) (vbelow_new _ _)) (by simpa using GB)) (unhide HW).low)
    replace HT1 := hide ((unhide HT1).but b2 hg)
    have HX := hide XB
    have C := hide (fun (P : Nat) (hP : w3.heap.size = P) => take_lit R g (i + 5) e l ⟨#[44]⟩ P w3 hP (unhide HW) (unhide HT1) hl)
    rw [unhide HZ] at C
    clear hown hgrow hnil GB hh q1 q2 q3 q4 XB b2 hgB HI HT1
    go_wp2_with fail
    refine (unhide C _ rfl).mono ?_
    rintro r w4 ⟨rfl, k4, b4⟩
    have HW4 := hide k4
    have HB4 := hide ((unhide HB).trans b4)
    have HX4 : Hid (B16 w4 gb (spanA t1 t2 false true)) := hide ⟨Nat.lt_of_lt_of_le (unhide HX).low b4.size, fun j x hx => (b4.cell (q := ⟨gb, j, none⟩) (unhide HX).low (by simp only; omega)).trans ((unhide HX).cell j x hx)⟩
    clear k4 b4 C HW HB HX
    go_wp2
    go_ret2
    exact ⟨gb, cap, rfl, l3, unhide HX4, unhide HW4, unhide HB4⟩
end Go.Proofs.YtcidbhegnnedoaaGreatDoor

/- A region that draws its order and stores a whole test. -/
namespace Go.Proofs.YtcidbhegnnedoaaGreatDoor
open Go.RowKit

abbrev put16 (w : World) (b : Nat) (v0 v1 v2 v3 v4 v5 v6 v7 v8 v9 v10 v11 v12 v13 v14 v15 : Value) : World :=
  ((((((((((((((((w.setCell ⟨b, 0, none⟩ v0).setCell ⟨b, 1, none⟩ v1).setCell ⟨b, 2, none⟩ v2).setCell ⟨b, 3, none⟩ v3).setCell ⟨b, 4, none⟩ v4).setCell ⟨b, 5, none⟩ v5).setCell ⟨b, 6, none⟩ v6).setCell ⟨b, 7, none⟩ v7).setCell ⟨b, 8, none⟩ v8).setCell ⟨b, 9, none⟩ v9).setCell ⟨b, 10, none⟩ v10).setCell ⟨b, 11, none⟩ v11).setCell ⟨b, 12, none⟩ v12).setCell ⟨b, 13, none⟩ v13).setCell ⟨b, 14, none⟩ v14).setCell ⟨b, 15, none⟩ v15)
/-- a span is stored -/
abbrev putS (w : World) (b : Nat) (t1 t2 : Tk) : World := put16 w b (.int .i64 7) (.int .i64 3) (.bool false) (.int .i64 t1.c) (.int .i64 t1.x) (.string ⟨#[]⟩) (.slice none 0 0) (.int .i64 3) (.bool false) (.int .i64 t2.c) (.int .i64 t2.x) (.string ⟨#[]⟩) (.slice none 0 0) (.bool false) (.bool true) (.slice none 0 0)
theorem BkA.putS {w : World} {b : Nat} {t1 t2 : Tk} (h : BkA w b zeroT) : BkA (putS w b t1 t2) b (spanA t1 t2 false true) := by
  have := ((((((((((((((((h.set 0 (.int .i64 7) (by simp)).set 1 (.int .i64 3) (by simp)).set 2 (.bool false) (by simp)).set 3 (.int .i64 t1.c) (by simp)).set 4 (.int .i64 t1.x) (by simp)).set 5 (.string ⟨#[]⟩) (by simp)).set 6 (.slice none 0 0) (by simp)).set 7 (.int .i64 3) (by simp)).set 8 (.bool false) (by simp)).set 9 (.int .i64 t2.c) (by simp)).set 10 (.int .i64 t2.x) (by simp)).set 11 (.string ⟨#[]⟩) (by simp)).set 12 (.slice none 0 0) (by simp)).set 13 (.bool false) (by simp)).set 14 (.bool true) (by simp)).set 15 (.slice none 0 0) (by simp))
  simpa using this

section
variable {ops : Array Oper} {Q : Exit → Act → World → Prop} {i : Nat} {K : Act → World → Prop} {a : Act} {w : World} {t : TypeId} {p : String} {af : Array Edge}
set_option maxHeartbeats 1000000 in
theorem os_storeS {s x b : Nat} {t1 t2 : Tk} (hi : ops[i]? = some ⟨none, .store 29 (.tmp s) (.tmp x), t, p, af, none⟩) (g0 : G a s = .pointer (some ⟨b, 0, none⟩)) (g1 : G a x = .agg (spanA t1 t2 false true)) (B : BkA w b zeroT)
    (h : K a (putS w b t1 t2)) : wpOp Tryz.prog ops Q i K a w := by
  have r : (execOp a.eval ⟨none, .store 29 (.tmp s) (.tmp x), t, p, af, none⟩).run Tryz.prog w = .ok .skip (putS w b t1 t2) := by
    obtain ⟨c0, c1, c2, c3, c4, c5, c6, c7, c8, c9, c10, c11, c12, c13, c14, c15⟩ := B.tell
    have fr := B.free
    have e0 := eval_G g0
    have e1 := eval_G g1
    generalize a.eval = E at e0 e1 ⊢
    simp [go_sem, e0, e1, c0, c1, c2, c3, c4, c5, c6, c7, c8, c9, c10, c11, c12, c13, c14, c15, fr]
  unfold wpOp
  rw [hi]
  simp only [Region.wanted, if_true]
  left
  unfold Oper.wp
  rw [r]
  exact h
end

section
variable {w0 w w' : World} {a0 a a' : Act} {N gi : Nat} {D : List Nat} {Fin : World → Prop} {l : List Ds} {L : Nat → Bool} {ops : Array Oper} {Q : Exit → Act → World → Prop}
theorem RS.lastA (h : RS w0 a0 N D gi Fin l L a w) (hi : (l[gi]?).getD .any = .any) (hg : L gi = false) (fin : Fin w') :
    RS w0 a0 N D gi Fin l (fun j => j == gi || L j) a w' := by
  refine ⟨h.size, h.defs, fun j hj => h.rest j (fun i' d' hi' hd' => hj i' d' (by simp [hi']) hd'), fun j e hj he => ?_, fun hq => ?_, fun _ => fin⟩
  · show OkS (gi == gi || L gi) l j (G a e) w'
    unfold OkS
    rw [if_pos (by simp)]
    by_cases e1 : j = gi
    · subst e1
      rw [hi]
      trivial
    have hL : L j = true := by simpa [e1] using hj
    have g := oks_mem (h.got j e hL he) hg
    unfold OkL at g
    generalize (l[j]?).getD .any = x at g ⊢
    cases x with
    | lit u => exact g
    | mem P k => trivial
    | any => trivial
  · simp at hq
theorem rs_storeS {t : TypeId} {p : String} {af : Array Edge} {s x b : Nat} {t1 t2 : Tk} (h : RS w0 a0 N D gi Fin l L a w) (hn : (l[gi]?).getD .any = .any) (hg : L gi = false) (hi : ops[gi]? = some ⟨none, .store 29 (.tmp s) (.tmp x), t, p, af, none⟩) (g0 : G a s = .pointer (some ⟨b, 0, none⟩)) (g1 : G a x = .agg (spanA t1 t2 false true))
    (B : BkA w b zeroT) (fin : Fin (putS w b t1 t2)) :
    wpOp Tryz.prog ops Q gi (fun a' w' => RS w0 a0 N D gi Fin l (fun j => j == gi || L j) a' w') a w :=
  os_storeS hi g0 g1 B (h.lastA hn hg fin)
end

section
variable {a : Act} {w : World} {d : Option Nat} {t : TypeId} {p : String} {af : Array Edge} {g : Option (Nat × Bool)}
theorem run_nilR {x : Operand} {ad : Addr} (h : a.eval x = .pointer (some ad)) : (execOp a.eval ⟨d, .nilCheck x, t, p, af, g⟩).run Tryz.prog w = .ok (.value (.pointer (some ad))) w := by
  generalize a.eval = E at h ⊢
  simp [go_sem, h]
theorem run_fldR {x : Operand} {b : Nat} (h : a.eval x = .pointer (some ⟨b, 0, none⟩)) : (execOp a.eval ⟨d, .fieldAddr 59 x 0, t, p, af, g⟩).run Tryz.prog w = .ok (.value (.pointer (some ⟨b, 0, none⟩))) w := by
  generalize a.eval = E at h ⊢
  simp [go_sem, h]
end
theorem callEnd (zs : Array Value) (w : World) : Sem.run Tryz.prog (callFunc 33 zs) w = .ok (.enter 33 zs) w := by simp [go_sem]
end Go.Proofs.YtcidbhegnnedoaaGreatDoor

/- Reading a test: outer and whole, where there is one span and nothing else. -/
namespace Go.Proofs.YtcidbhegnnedoaaGreatDoor
open Go.RowKit

theorem TSG.but {w w' : World} {R : Nat} (h : TSG w) (hb : But R w w') (ne : 6 ≠ R) : TSG w' := fun i v hv => (hb.cell (q := ⟨6, i, none⟩) h.lt ne).trans (h i v hv)

set_option maxRecDepth 10000 in
set_option maxHeartbeats 8000000 in
theorem outer_one (R g i : Nat) (e : Int) (l : List Tk) (t1 t2 : Tk) (w : World) (h : WK w R g l.length i e) (hT : TKS w g l) (hg : g ≠ R) (hG : TSG w) (hgR : 6 ≠ R) (hl : l.length ≤ 4000) (S : SPN l i t1 t2) (hn : l.length = i + 5) (hN : seesL l i [⟨#[110, 111, 116]⟩, ⟨#[40]⟩] = false) :
    Calls Tryz.prog 32 #[.pointer (some ⟨R, 0, none⟩)] w fun r w' => r = .returned (.tuple #[.agg (spanA t1 t2 false true), .nilIface]) ∧ WK w' R g l.length (i + 5) e ∧ But R w w' := by
  have lR := h.low
  have lg := hT.low
  have K0 := hide (fun (W : World) (hb : Below w.heap.size w W) => left_any R g l.length i e W (h.keep hb lR))
  have e5 : l.length - i = 5 := by omega
  rw [e5] at K0
  have K1 := hide (fun (W : World) (hb : Below w.heap.size w W) (P : Nat) (hP : W.heap.size = P) => take_lit2 R g i e l ⟨#[110, 111, 116]⟩ ⟨#[40]⟩ P W hP (h.keep hb lR) (hT.keep hb lg) hl)
  rw [hN] at K1
  have K2 := hide (fun (W : World) (k : WK W R g l.length i e) (q : TKS W g l) (s : TSG W) => list_one R g i e l t1 t2 W k q hg s hl S hn)
  have HT := hide hT
  have HG := hide hG
  clear h hT hG S hN e5
  go_enter Tryz.func32, Tryz.ntmps32
  go_wp2_with fail
  refine (unhide K0 _ (vbelow_new w _)).mono ?_
  rintro r w1 ⟨rfl, rfl⟩
  clear K0
  go_wp2_with fail
  refine (unhide K1 _ (vbelow_new w _) _ (by simp)).mono ?_
  rintro r w2 ⟨rfl, k2, b2⟩
  have XR := hide ((BkA.new (w := w) (t := 29) (u := zeroT)).but b2 (by omega))
  have HB := hide ((But.of (p := R) (vbelow_new w _)).trans b2)
  have C2 := hide (unhide K2 w2 k2 ((unhide HT).but (unhide HB) hg) ((unhide HG).but (unhide HB) hgR))
  clear k2 b2 K1 K2 HT HG
  go_wp2_with fail
  refine (unhide C2).mono ?_
  rintro r w3 ⟨bb, cap, rfl, lbb, xb, k3, b3⟩
  have HW := hide k3
  have XR3 := (unhide XR).but b3 (by omega)
  have HB3 := hide ((unhide HB).trans b3)
  obtain ⟨x0, x1, x2, x3, x4, x5, x6, x7, x8, x9, x10, x11, x12, x13, x14, x15⟩ := xb.tell
  obtain ⟨y0, y1, y2, y3, y4, y5, y6, y7, y8, y9, y10, y11, y12, y13, y14, y15⟩ := XR3.tell
  have fy := XR3.free
  have ly := XR3.low
  have lx := xb.low
  have lwe := (unhide HB3).size
  have lwb := (unhide HB).size
  clear k3 b3 C2 XR HB XR3 xb
  go_wp2
  refine bodyPost_ret (v := .tuple #[.agg (spanA t1 t2 false true), .nilIface]) (by simp [results, Tryz.results32, go_sem, y0, y1, y2, y3, y4, y5, y6, y7, y8, y9, y10, y11, y12, y13, y14, y15]) rfl ⟨rfl, (unhide HW).but but16 (by omega), (unhide HB3).on (but16.below (Nat.le_refl _) lwe)⟩

theorem frame_wh {a : Act} (hs : a.tmps.size = 20) (hd : a.defers = []) :
    ∃ v0 v1 v2 v3 v4 v5 v6 v7 v8 v9 v10 v11 v12 v13 v14 v15 v16 v17 v18 v19 : Value, a = { tmps := #[v0, v1, v2, v3, v4, v5, v6, v7, v8, v9, v10, v11, v12, v13, v14, v15, v16, v17, v18, v19], defers := [] } ∧ v2 = G a 2 ∧ v3 = G a 3 := by
  have e : a = { tmps := #[G a 0, G a 1, G a 2, G a 3, G a 4, G a 5, G a 6, G a 7, G a 8, G a 9, G a 10, G a 11, G a 12, G a 13, G a 14, G a 15, G a 16, G a 17, G a 18, G a 19], defers := [] } := frame_is hs hd
  exact ⟨_, _, _, _, _, _, _, _, _, _, _, _, _, _, _, _, _, _, _, _, e, rfl, rfl⟩

set_option maxRecDepth 10000 in
set_option maxHeartbeats 8000000 in
theorem whole_one (R g i : Nat) (e : Int) (l : List Tk) (t1 t2 : Tk) (w : World) (h : WK w R g l.length i e) (hT : TKS w g l) (hg : g ≠ R) (hG : TSG w) (hgR : 6 ≠ R) (hl : l.length ≤ 4000) (S : SPN l i t1 t2) (hn : l.length = i + 5) (hN : seesL l i [⟨#[110, 111, 116]⟩, ⟨#[40]⟩] = false) :
    Calls Tryz.prog 22 #[.pointer (some ⟨R, 0, none⟩)] w fun r w' => r = .returned (.tuple #[.agg (spanA t1 t2 false true), .nilIface]) ∧ But R w w' := by
  have lR := h.low
  have lg := hT.low
  have K0 := hide (fun (W : World) (hb : Below w.heap.size w W) => outer_one R g i e l t1 t2 W (h.keep hb lR) (hT.keep hb lg) hg (hG.on hb) hgR hl S hn hN)
  rw [← hn] at K0
  clear h hT hG S hN
  go_enter Tryz.func22, Tryz.ntmps22
  go_wp2_with fail
  refine (unhide K0 _ (vbelow_new w _)).mono ?_
  rintro r w1 ⟨rfl, k1, b1⟩
  have l1 : w.heap.size + 1 ≤ w1.heap.size := by have := b1.size; simp at this; omega
  have HW := hide (k1.keep (vbelow_new w1 (.cells (spanA t1 t2 false true) 29)) k1.low)
  have XR := hide (((BkA.new (w := w) (t := 29) (u := zeroT)).but b1 (by omega)).over (o := .cells (spanA t1 t2 false true) 29))
  have XT := hide (BkA.new (w := w1) (t := 29) (u := spanA t1 t2 false true))
  have HB := hide (((But.of (p := R) (vbelow_new w _)).trans b1).trans (But.of (vbelow_new w1 (.cells (spanA t1 t2 false true) 29))))
  clear k1 b1 K0
  have CE := hide (fun (W : World) (hb : Below (w1.alloc (.cells (spanA t1 t2 false true) 29)).heap.size (w1.alloc (.cells (spanA t1 t2 false true) 29)) W) => end_any R g l.length e W ((unhide HW).keep hb (unhide HW).low))
  have lwe := (unhide HB).size
  go_upto_region 4 with fail
  refine frame_name ?_
  intro f0 hf0
  have s0 : G f0 0 = .pointer (some ⟨R, 0, none⟩) := by rw [hf0]; rfl
  have s2 : G f0 2 = .pointer (some ⟨w.heap.size, 0, none⟩) := by rw [hf0]; rfl
  have s4 : G f0 4 = .pointer (some ⟨w1.heap.size, 0, none⟩) := by rw [hf0]; rfl
  have hsz : f0.tmps.size = 20 := by rw [hf0]; rfl
  have hdf : f0.defers = [] := by rw [hf0]
  refine region_any (I := RS (w1.alloc (.cells (spanA t1 t2 false true) 29)) f0 20 [15, 16, 17, 18, 19, 99, 3] 5 (fun w' => But R w w' ∧ BkA w' w.heap.size (spanA t1 t2 false true)) [.lit (.agg (spanA t1 t2 false true)), .lit (.pointer (some ⟨R, 0, none⟩)), .lit (.pointer (some ⟨R, 0, none⟩)), .lit (.pointer (some ⟨R, 0, none⟩)), .lit (.nilIface), .any, .lit (.nilIface)]) (by kernel_rfl) ?wait ?step ?done ?start
  case wait => exact ⟨by simp, by simp, by simp, by simp, by simp, by simp, by simp, trivial⟩
  case start => exact RS.start hsz hdf ((Below.refl _ _).drew)
  case step =>
    refine ⟨?_, ?_, ?_, ?_, ?_, ?_, ?_, trivial⟩
    · rintro L fa wx h hcl hL hw2
      exact rs_val h (by decide) rfl rfl rfl (by decide) (by decide) rfl (run_ldT (eval_G ((h.keep (s := 4) (by decide)).trans s4)) (let q := (unhide XT).keep (h.old (Bool.eq_false_iff.2 fun hq => by have hz := (hcl 5 _ rfl hq ⟨0, .data⟩ (by simp) rfl); rw [hL] at hz; cases hz)) (unhide XT).low; ⟨q.low, q.cell⟩)) rfl
    · rintro L fa wx h hcl hL hw2
      exact rs_val h (by decide) rfl rfl rfl (by decide) (by decide) rfl (run_mv (eval_G ((h.keep (s := 0) (by decide)).trans s0))) rfl
    · rintro L fa wx h hcl hL hw2
      exact rs_val h (by decide) rfl rfl rfl (by decide) (by decide) rfl (run_nilR (eval_G (show G fa 16 = .pointer (some ⟨R, 0, none⟩) from oks_lit (h.got 1 16 (hw2 ⟨1, .data⟩ (by simp) rfl) rfl) rfl))) rfl
    · rintro L fa wx h hcl hL hw2
      exact rs_val h (by decide) rfl rfl rfl (by decide) (by decide) rfl (run_fldR (eval_G (show G fa 17 = .pointer (some ⟨R, 0, none⟩) from oks_lit (h.got 2 17 (hw2 ⟨2, .data⟩ (by simp) rfl) rfl) rfl))) rfl
    · rintro L fa wx h hcl hL hw2
      exact rs_call (R := fun v _ => v = .nilIface) h (by decide) rfl rfl rfl (by decide) (by decide) (Bool.eq_false_iff.2 fun hq => by have hz := (hcl 5 _ rfl hq ⟨4, .chain⟩ (by simp) rfl); rw [hL] at hz; cases hz) rfl (run_call1 (eval_G (show G fa 18 = .pointer (some ⟨R, 0, none⟩) from oks_lit (h.got 3 18 (hw2 ⟨3, .data⟩ (by simp) rfl) rfl) rfl)) callEnd) ((unhide CE _ (h.old (Bool.eq_false_iff.2 fun hq => by have hz := (hcl 5 _ rfl hq ⟨4, .chain⟩ (by simp) rfl); rw [hL] at hz; cases hz))).mono fun _ _ q => ⟨_, q.1, rfl, by rw [q.2]; exact Below.refl _ _⟩) (fun _ _ q => q)
    · rintro L fa wx h hcl hL hw2
      exact rs_storeS h rfl hL rfl ((h.keep (s := 2) (by decide)).trans s2) (show G fa 15 = .agg (spanA t1 t2 false true) from oks_lit (h.got 0 15 (hw2 ⟨0, .data⟩ (by simp) rfl) rfl) rfl) ((unhide XR).keep (h.old hL) (unhide XR).low) ⟨(((unhide HB).trans (But.of (h.old hL))).on (but16.below (Nat.le_refl _) (Nat.le_trans lwe (h.old hL).size))), BkA.putS ((unhide XR).keep (h.old hL) (unhide XR).low)⟩
    · rintro L fa wx h hcl hL hw2
      exact rs_val h (by decide) rfl rfl rfl (by decide) (by decide) rfl (run_asg (eval_G (show G fa 19 = .nilIface from oks_lit (h.got 4 19 (hw2 ⟨4, .data⟩ (by simp) rfl) rfl) rfl))) rfl
  case done =>
    rintro L f1 w3 h hall
    obtain ⟨hb, XF⟩ := h.fin (hall 5 (by simp))
    have q3 : G f1 3 = .nilIface := oks_lit (h.got 6 3 (hall 6 (by simp)) rfl) rfl
    replace s2 := (h.keep (s := 2) (by decide)).trans s2
    replace hsz := h.size
    replace hdf := h.defs
    clear h hall hf0 CE XR XT HB HW s0 s4
    obtain ⟨v0, v1, v2, v3, v4, v5, v6, v7, v8, v9, v10, v11, v12, v13, v14, v15, v16, v17, v18, v19, rfl, e2, e3⟩ := frame_wh hsz hdf
    rw [s2] at e2
    rw [q3] at e3
    subst e2 e3
    clear s2 q3 hsz hdf
    obtain ⟨y0, y1, y2, y3, y4, y5, y6, y7, y8, y9, y10, y11, y12, y13, y14, y15⟩ := XF.tell
    go_wp2
    exact bodyPost_ret (v := .tuple #[.agg (spanA t1 t2 false true), .nilIface]) (by simp [results, Tryz.results22, go_sem, y0, y1, y2, y3, y4, y5, y6, y7, y8, y9, y10, y11, y12, y13, y14, y15]) rfl ⟨rfl, hb⟩
end Go.Proofs.YtcidbhegnnedoaaGreatDoor
