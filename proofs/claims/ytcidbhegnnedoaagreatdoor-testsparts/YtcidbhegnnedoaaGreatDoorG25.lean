/- Read of a text that is one span. -/
import Derived.Test.YtcidbhegnnedoaaGreatDoorG19
import Derived.Test.YtcidbhegnnedoaaGreatDoorG20
import Derived.Test.YtcidbhegnnedoaaGreatDoorG24
import Derived.Test.YtcidbhegnnedoaaGreatDoorG06
import Derived.Test.YtcidbhegnnedoaaGreatDoorG08
import Derived.Test.YtcidbhegnnedoaaGreatDoorG09
import Derived.Test.YtcidbhegnnedoaaGreatDoorG18
namespace Go.Proofs.YtcidbhegnnedoaaGreatDoor
open Go.RowKit

set_option maxRecDepth 10000 in
set_option maxHeartbeats 2000000 in
theorem results_read (v0 v1 v4 v5 v6 v7 v8 v9 v10 v11 v12 v13 v14 v15 v16 v17 v18 v19 v20 v21 v22 v23 v24 v25 v26 v27 v28 v29 v30 v31 v32 v33 v34 v35 v36 v37 v38 v39 v40 v41 : Value) (F : World) (b c : Nat) (t1 t2 : Tk) (X : BkA F b (spanA t1 t2 false true)) (Y : BkA F c #[.int .i64 0, .int .i64 0]) :
    (results Tryz.f13 #[v0, v1, .pointer (some ⟨b, 0, none⟩), .pointer (some ⟨c, 0, none⟩), v4, v5, v6, v7, v8, v9, v10, v11, v12, v13, v14, v15, v16, v17, v18, v19, v20, v21, v22, v23, v24, v25, v26, v27, v28, v29, v30, v31, v32, v33, v34, v35, v36, v37, v38, v39, v40, v41]).run Tryz.prog F = .ok (.tuple #[.agg (spanA t1 t2 false true), .agg #[.int .i64 0, .int .i64 0]]) F := by
  obtain ⟨r0, r1, r2, r3, r4, r5, r6, r7, r8, r9, r10, r11, r12, r13, r14, r15⟩ := X.tell
  have r16 : F.cell? ⟨c, 0, none⟩ = some (.int .i64 0) := Y.cell 0 _ rfl
  have r17 : F.cell? ⟨c, 1, none⟩ = some (.int .i64 0) := Y.cell 1 _ rfl
  simp [results, Tryz.results13, go_sem, r0, r1, r2, r3, r4, r5, r6, r7, r8, r9, r10, r11, r12, r13, r14, r15, r16, r17]

set_option maxRecDepth 10000 in
set_option maxHeartbeats 8000000 in
theorem read_span (s : ByteArray) (l : List Tk) (t1 t2 : Tk) (T : TS) (w : World) (hs : s.size ≤ 4000) (hu : leadL (gUtf s.data.toList) s.size 0 s.data.toList = s.size) (ht : toksL s.size 0 s.data.toList [] = (l, 0, 0)) (hne : l ≠ []) (hl : l.length ≤ 4000) (P : SPN l 0 t1 t2) (hn : l.length = 0 + 5) (hN : seesL l 0 [⟨#[110, 111, 116]⟩, ⟨#[40]⟩] = false)
    (hM : ∀ B W, MemS B W T (spanA t1 t2 false true)) (hw : wrongS T 1 = 0) (hL : LT w) (hS : SG w) (hG : TSG w) (hT : TabsIn w.heap.size w) :
    Calls Tryz.prog 13 #[.string s] w fun r w' => r = .returned (.tuple #[.agg (spanA t1 t2 false true), .agg #[.int .i64 0, .int .i64 0]]) ∧ Below w.heap.size w w' := by
  have K0 := hide (fun (W : World) (hb : Below w.heap.size w W) => over_any s l W hs hu ht hne (hL.on hb) (hS.on hb))
  have K1 := hide (fun (W : World) (R g : Nat) (h : WK W R g l.length 0 ((s.size : Nat) : Int)) (q : TKS W g l) (hg : g ≠ R) (hG : TSG W) (hgR : 6 ≠ R) => whole_one R g 0 ((s.size : Nat) : Int) l t1 t2 W h q hg hG hgR hl P hn hN)
  have K2 := hide (fun (W : World) (hb : Below w.heap.size w W) => tWrong_any T (spanA t1 t2 false true) w.heap.size W hb.size (hM _ _) (hT.below hb))
  rw [hw] at K2
  have HG := hide hG
  have lG := hG.lt
  clear hL hS hG hT hM hw ht hu P hN hn
  go_enter Tryz.func13, Tryz.ntmps13
  go_wp2_with fail
  refine (unhide K0 _ (bv (vbelow_new w _) (vbelow_new _ _))).mono ?_
  rintro r w1 ⟨g, cap, rfl, hcap, lg, hK, hb⟩
  have lw1 : w.heap.size + 2 ≤ w1.heap.size := by have := hb.size; simp at this; omega
  have XR := hide ((((BkA.new (w := w) (t := 29) (u := zeroT)).over (o := .cells #[.int .i64 0, .int .i64 0] 41)).keep hb (by simp; omega)).keep (below3 w1 (.cells #[.slice (some ⟨g, 0, none⟩) l.length cap, .int .i64 ((s.size : Nat) : Int)] 55) (.cells #[.int .i64 0, .int .i64 0] 41) (.cells #[.slice (some ⟨g, 0, none⟩) l.length cap, .int .i64 ((s.size : Nat) : Int)] 59)) (by omega))
  have XF : Hid (BkA (((w1.alloc (.cells #[.slice (some ⟨g, 0, none⟩) l.length cap, .int .i64 ((s.size : Nat) : Int)] 55)).alloc (.cells #[.int .i64 0, .int .i64 0] 41)).alloc (.cells #[.slice (some ⟨g, 0, none⟩) l.length cap, .int .i64 ((s.size : Nat) : Int)] 59)) (w.heap.size + 1) #[.int .i64 0, .int .i64 0]) := hide (by
    have := ((BkA.new (w := w.alloc (.cells zeroT 29)) (t := 41) (u := #[.int .i64 0, .int .i64 0])).keep hb (by simp)).keep (below3 w1 (.cells #[.slice (some ⟨g, 0, none⟩) l.length cap, .int .i64 ((s.size : Nat) : Int)] 55) (.cells #[.int .i64 0, .int .i64 0] 41) (.cells #[.slice (some ⟨g, 0, none⟩) l.length cap, .int .i64 ((s.size : Nat) : Int)] 59)) (by simp; omega)
    simpa using this)
  have HB := hide (bv (bv (bv (vbelow_new w _) (vbelow_new _ _)) hb) (below3 w1 (.cells #[.slice (some ⟨g, 0, none⟩) l.length cap, .int .i64 ((s.size : Nat) : Int)] 55) (.cells #[.int .i64 0, .int .i64 0] 41) (.cells #[.slice (some ⟨g, 0, none⟩) l.length cap, .int .i64 ((s.size : Nat) : Int)] 59)))
  have lgw := hK.low
  have HK := hide (hK.keep (below3 w1 (.cells #[.slice (some ⟨g, 0, none⟩) l.length cap, .int .i64 ((s.size : Nat) : Int)] 55) (.cells #[.int .i64 0, .int .i64 0] 41) (.cells #[.slice (some ⟨g, 0, none⟩) l.length cap, .int .i64 ((s.size : Nat) : Int)] 59)) hK.low)
  have HW : Hid (WK (((w1.alloc (.cells #[.slice (some ⟨g, 0, none⟩) l.length cap, .int .i64 ((s.size : Nat) : Int)] 55)).alloc (.cells #[.int .i64 0, .int .i64 0] 41)).alloc (.cells #[.slice (some ⟨g, 0, none⟩) l.length cap, .int .i64 ((s.size : Nat) : Int)] 59)) (w1.heap.size + 1 + 1) g l.length 0 ((s.size : Nat) : Int)) := hide (by
    have q := BkA.new (w := (w1.alloc (.cells #[.slice (some ⟨g, 0, none⟩) l.length cap, .int .i64 ((s.size : Nat) : Int)] 55)).alloc (.cells #[.int .i64 0, .int .i64 0] 41)) (t := 59) (u := #[.slice (some ⟨g, 0, none⟩) l.length cap, .int .i64 ((s.size : Nat) : Int)])
    have q' : BkA (((w1.alloc (.cells #[.slice (some ⟨g, 0, none⟩) l.length cap, .int .i64 ((s.size : Nat) : Int)] 55)).alloc (.cells #[.int .i64 0, .int .i64 0] 41)).alloc (.cells #[.slice (some ⟨g, 0, none⟩) l.length cap, .int .i64 ((s.size : Nat) : Int)] 59)) (w1.heap.size + 1 + 1) #[.slice (some ⟨g, 0, none⟩) l.length cap, .int .i64 ((s.size : Nat) : Int)] := by simpa using q
    exact ⟨q'.low, Nat.zero_le _, ⟨some ⟨g, 0, none⟩, cap, q'.cell 0 _ rfl, fun _ => rfl, hcap⟩, q'.cell 1 _ rfl, q'.free 0⟩)
  have CW := hide (unhide K1 (((w1.alloc (.cells #[.slice (some ⟨g, 0, none⟩) l.length cap, .int .i64 ((s.size : Nat) : Int)] 55)).alloc (.cells #[.int .i64 0, .int .i64 0] 41)).alloc (.cells #[.slice (some ⟨g, 0, none⟩) l.length cap, .int .i64 ((s.size : Nat) : Int)] 59)) (w1.heap.size + 1 + 1) g (unhide HW) (unhide HK) (by omega) ((unhide HG).on (unhide HB)) (by omega))
  clear hb hK hcap K0 K1 HK HW
  go_wp2_with fail
  refine (unhide CW).mono ?_
  rintro r w3 ⟨rfl, b3⟩
  have l3 : w.heap.size + 2 ≤ w3.heap.size := by have := b3.size; simp at this; omega
  replace XR := hide ((((unhide XR).but b3 (by omega)).over (o := .cells (spanA t1 t2 false true) 29)).over (o := .cells #[.int .i64 0, .int .i64 0] 65))
  replace XF := hide ((((unhide XF).but b3 (by omega)).over (o := .cells (spanA t1 t2 false true) 29)).over (o := .cells #[.int .i64 0, .int .i64 0] 65))
  have XT := hide ((BkA.new (w := w3) (t := 29) (u := (spanA t1 t2 false true))).over (o := .cells #[.int .i64 0, .int .i64 0] 65))
  have HB3 : Hid (Below w.heap.size w ((w3.alloc (.cells (spanA t1 t2 false true) 29)).alloc (.cells #[.int .i64 0, .int .i64 0] 65))) := hide (bv (bv ((unhide HB).trans (b3.below (by omega) (unhide HB).size)) (vbelow_new _ _)) (vbelow_new _ _))
  clear b3 CW HB HG
  go_wp2_with fail
  refine (as_nil _ _).mono ?_
  rintro r w4 ⟨rfl, rfl⟩
  obtain ⟨x0, x1, x2, x3, x4, x5, x6, x7, x8, x9, x10, x11, x12, x13, x14, x15⟩ := (unhide XT).tell
  have C2 := hide (unhide K2 _ (unhide HB3))
  clear K2
  go_wp2_with fail
  refine (unhide C2).mono ?_
  rintro r w5 ⟨rfl, b5⟩
  have XR5 := (unhide XR).keep b5 (unhide XR).low
  have XF5 := (unhide XF).keep b5 (unhide XF).low
  have XT5 := (unhide XT).keep b5 (unhide XT).low
  have HB5 := hide (bv (unhide HB3) b5)
  clear b5 C2 XR XF XT HB3 x0 x1 x2 x3 x4 x5 x6 x7 x8 x9 x10 x11 x12 x13 x14 x15
  obtain ⟨x0, x1, x2, x3, x4, x5, x6, x7, x8, x9, x10, x11, x12, x13, x14, x15⟩ := XT5.tell
  obtain ⟨y0, y1, y2, y3, y4, y5, y6, y7, y8, y9, y10, y11, y12, y13, y14, y15⟩ := XR5.tell
  have fy := XR5.free
  have ly := XR5.low
  have XS : Hid (BkA (((putS w5 w.heap.size t1 t2).setCell ⟨w.heap.size + 1, 0, none⟩ (.int .i64 0)).setCell ⟨w.heap.size + 1, 1, none⟩ (.int .i64 0)) w.heap.size (spanA t1 t2 false true)) := hide ((XR5.putS.aside (n := w.heap.size + 1) (by omega)).aside (n := w.heap.size + 1) (by omega))
  have XG : Hid (BkA (((putS w5 w.heap.size t1 t2).setCell ⟨w.heap.size + 1, 0, none⟩ (.int .i64 0)).setCell ⟨w.heap.size + 1, 1, none⟩ (.int .i64 0)) (w.heap.size + 1) #[.int .i64 0, .int .i64 0]) := hide (by
    have := ((XF5.but (p := w.heap.size) (w' := putS w5 w.heap.size t1 t2) but16 (by omega)).set 0 (.int .i64 0) (by simp)).set 1 (.int .i64 0) (by simp)
    simpa using this)
  have z0 : w5.cell? ⟨w.heap.size + 1, 0, none⟩ = some (.int .i64 0) := XF5.cell 0 _ rfl
  have z1 : w5.cell? ⟨w.heap.size + 1, 1, none⟩ = some (.int .i64 0) := XF5.cell 1 _ rfl
  have fz := XF5.free
  have lz := XF5.low
  have lt := XT5.low
  clear XR5 XF5 XT5
  have HE : Hid (Below w.heap.size w (((putS w5 w.heap.size t1 t2).setCell ⟨w.heap.size + 1, 0, none⟩ (.int .i64 0)).setCell ⟨w.heap.size + 1, 1, none⟩ (.int .i64 0))) := hide (((unhide HB5).trans ((show But w.heap.size w5 (putS w5 w.heap.size t1 t2) from but16).below (Nat.le_refl _) (unhide HB5).size)).setCell (p := ⟨w.heap.size + 1, 0, none⟩) (Nat.le_succ _) _ |>.setCell (p := ⟨w.heap.size + 1, 1, none⟩) (Nat.le_succ _) _)
  go_wp2
  exact bodyPost_ret (results_read _ _ _ _ _ _ _ _ _ _ _ _ _ _ _ _ _ _ _ _ _ _ _ _ _ _ _ _ _ _ _ _ _ _ _ _ _ _ _ _ _ w.heap.size (w.heap.size + 1) t1 t2 (unhide XS) (unhide XG)) rfl ⟨rfl, unhide HE⟩
end Go.Proofs.YtcidbhegnnedoaaGreatDoor

/- Read of one text, and alive. -/
namespace Go.Proofs.YtcidbhegnnedoaaGreatDoor
open Go.RowKit

abbrev aliveS : ByteArray := ⟨#[91, 49, 46, 46, 53, 41]⟩
def aliveK : List Tk := [⟨4, [91], 0, 0, 0⟩, ⟨2, [49], 1, 0, 1⟩, ⟨4, [46, 46], 0, 0, 2⟩, ⟨2, [53], 5, 0, 4⟩, ⟨4, [41], 0, 0, 5⟩]
theorem aliveK_is : toksL aliveS.size 0 aliveS.data.toList [] = (aliveK, 0, 0) := by kernel_rfl
theorem alive_utf : leadL (gUtf aliveS.data.toList) aliveS.size 0 aliveS.data.toList = aliveS.size := by kernel_rfl
theorem alive_spn : SPN aliveK 0 ⟨2, [49], 1, 0, 1⟩ ⟨2, [53], 5, 0, 4⟩ :=
  ⟨fun m => by
    match m with
    | 0 => rfl
    | 1 => rfl
    | 2 => rfl
    | m + 3 => rfl, rfl, rfl, rfl, rfl, rfl, rfl, rfl, rfl⟩
theorem alive_not : seesL aliveK 0 [⟨#[110, 111, 116]⟩, ⟨#[40]⟩] = false := rfl
/-- the test that the text says -/
def aliveT : TS := .mk 7 (.mk 3 false 1 0 ⟨#[]⟩ []) (.mk 3 false 5 0 ⟨#[]⟩ []) false true []
def aliveV : Tree := .mk 3 false 5 0 ⟨#[]⟩ []
theorem alive_right : wrongS aliveT 1 = 0 := by kernel_rfl
theorem alive_value : (wrongF aliveV 0 1).1 = 0 := by kernel_rfl
theorem alive_says : doesS aliveT aliveV = 0 := by kernel_rfl
theorem mem_num (B : Nat) (w : World) (c x : Int) : Mem B w (.mk 3 false c x ⟨#[]⟩ []) (numA c x) := by
  rw [Mem]
  exact ⟨by decide, by simp, none, 0, rfl, fun h => absurd rfl h⟩
theorem alive_mem (B : Nat) (w : World) : MemS B w aliveT (spanA ⟨2, [49], 1, 0, 1⟩ ⟨2, [53], 5, 0, 4⟩ false true) := by
  rw [aliveT, MemS]
  exact ⟨by simp, _, _, _, _, _, _, _, _, _, _, _, _, none, 0, mem_num B w 1 0, mem_num B w 5 0, rfl, fun h => absurd rfl h⟩
abbrev A1 : Tk := ⟨2, [49], 1, 0, 1⟩
abbrev A2 : Tk := ⟨2, [53], 5, 0, 4⟩

theorem read_alive (w : World) (hL : LT w) (hS : SG w) (hG : TSG w) (hT : TabsIn w.heap.size w) :
    Calls Tryz.prog 13 #[.string aliveS] w fun r w' => r = .returned (.tuple #[.agg (spanA A1 A2 false true), .agg #[.int .i64 0, .int .i64 0]]) ∧ Below w.heap.size w w' :=
  read_span aliveS aliveK A1 A2 aliveT w (by decide) alive_utf aliveK_is (by simp [aliveK]) (by decide) alive_spn rfl alive_not (fun B W => alive_mem B W) alive_right hL hS hG hT

abbrev fiveA : Array Value := numA 5 0

set_option maxRecDepth 10000 in
set_option maxHeartbeats 8000000 in
theorem alive8_any (w : World) (hL : LT w) (hS : SG w) (hG : TSG w) (hT : TabsIn w.heap.size w) :
    Calls Tryz.prog 5 #[] w fun r w' => r = .returned (.bool true) ∧ Below w.heap.size w w' := by
  have K0 := hide (read_alive w hL hS hG hT)
  have K1 := hide (fun (W : World) (hb : Below w.heap.size w W) => tDoes_val aliveT aliveV (spanA A1 A2 false true) fiveA w.heap.size W hb.size (alive_mem _ _) (mem_num _ _ 5 0) (hT.below hb) alive_right)
  rw [alive_value, alive_says, if_pos rfl] at K1
  clear hL hS hG hT
  go_enter Tryz.func5, Tryz.ntmps5
  go_wp2_with fail
  refine (unhide K0).mono ?_
  rintro r w1 ⟨rfl, b1⟩
  have HB := hide (bv (bv b1 (vbelow_new w1 (.cells (spanA A1 A2 false true) 29))) (vbelow_new _ (.cells #[.int .i64 0, .int .i64 0] 41)))
  have XT := hide ((BkA.new (w := w1) (t := 29) (u := (spanA A1 A2 false true))).over (o := .cells #[.int .i64 0, .int .i64 0] 41))
  have XF : Hid (BkA ((w1.alloc (.cells (spanA A1 A2 false true) 29)).alloc (.cells #[.int .i64 0, .int .i64 0] 41)) (w1.heap.size + 1) #[.int .i64 0, .int .i64 0]) := hide (by
    have := BkA.new (w := w1.alloc (.cells (spanA A1 A2 false true) 29)) (t := 41) (u := #[.int .i64 0, .int .i64 0])
    simpa using this)
  clear b1 K0
  have C1 := hide (unhide K1 _ (unhide HB))
  clear K1
  go_wp2_with fail
  refine (unhide C1).mono ?_
  rintro r w2 ⟨rfl, b2⟩
  have XT2 := (unhide XT).keep b2 (unhide XT).low
  have XF2 := (unhide XF).keep b2 (unhide XF).low
  have HB2 := hide (bv (bv (unhide HB) b2) (vbelow_new w2 (.cells (toldA 0) 26)))
  have x0 : w2.cell? ⟨w1.heap.size, 0, none⟩ = some (.int .i64 7) := XT2.cell 0 _ rfl
  have z0 : w2.cell? ⟨w1.heap.size + 1, 0, none⟩ = some (.int .i64 0) := XF2.cell 0 _ rfl
  have lt := XT2.low
  have lz := XF2.low
  have k0 : kd 0 = 2 := rfl
  have y0 : yd 0 = false := rfl
  clear b2 C1 XT XF HB XT2 XF2
  go_wp2
  go_ret
  exact ⟨rfl, unhide HB2⟩
end Go.Proofs.YtcidbhegnnedoaaGreatDoor

/- Walks: what a test says of a value, of what is right. -/
namespace Go.Proofs.YtcidbhegnnedoaaGreatDoor
open Go.RowKit

set_option maxHeartbeats 4000000 in
theorem says_right (T : TS) (v : Tree) (q u : Array Value) (B : Nat) (w : World) (hB : B ≤ w.heap.size) (hM : MemS B w T q) (Mv : Mem B w v u) (hT : TabsIn B w) (hw : wrongS T 1 = 0) (hv : (wrongF v 0 1).1 = 0) :
    Calls Tryz.prog 9 #[.agg q, .agg u] w fun e w' => e = .returned (told (doesS T v)) ∧ Below w.heap.size w w' := by
  have C := hide (fun wx (hb : Below w.heap.size w wx) => tDoes_val T v q u B wx (Nat.le_trans hB hb.size) (MemS.below (hb.mono hB) hM) (Mem.below (hb.mono hB) Mv) (hT.below (hb.mono hB)) hw)
  rw [hv, if_pos rfl] at C
  generalize doesS T v = n at *
  obtain ⟨u0, u1, u2, u3, u4, u5, rfl⟩ := Mv.arr
  obtain ⟨k, a, b, oa, ob, ks⟩ := T
  rw [MemS] at hM
  obtain ⟨_, a0, a1, a2, a3, a4, a5, b0, b1, b2, b3, b4, b5, ad, cap, _, _, rfl, _⟩ := hM
  clear hT hw hv Mv
  go_enter Tryz.func9, Tryz.ntmps9
  go_wp2_with fail
  refine (unhide C _ (below3 _ _ _ _)).mono ?_
  rintro e w1 ⟨rfl, hb⟩
  obtain ⟨R, hw⟩ := box3g hb
  have R2 := R.over (o := .cells (toldA n) 26)
  have hw2 := bv hw (vbelow_new w1 (.cells (toldA n) 26))
  clear hb C R hw
  obtain ⟨c0, c1, c2, c3, c4, c5⟩ := R2.tell
  obtain ⟨f0, f1, f2, f3, f4, f5⟩ := R2.thaw
  have lb := R2.low
  go_wp2
  exact bodyPost_ret (v := told n) (by simp [results, Tryz.results9, go_sem, c0, c1, c2, c3, c4, c5]) rfl ⟨rfl, below_put6 hw2 (by omega)⟩
end Go.Proofs.YtcidbhegnnedoaaGreatDoor

/- Plain: of two numbers, or texts, one is less, or they are the same. -/
namespace Go.Proofs.YtcidbhegnnedoaaGreatDoor
open Go.RowKit

theorem lessH_num {y y' : Bool} {c x c' x' : Int} {t t' : ByteArray} {ks ks' : List Tree} : lessH (.mk 3 y c x t ks) (.mk 3 y' c' x' t' ks') = if Dm.sgn (Dm.V c x - Dm.V c' x') < 0 then 2 else 0 := by
  rw [lessH]
  exact if_pos ⟨rfl, rfl⟩
theorem lessH_text {y y' : Bool} {c x c' x' : Int} {t t' : ByteArray} {ks ks' : List Tree} : lessH (.mk 4 y c x t ks) (.mk 4 y' c' x' t' ks') = if Op.bytesLess t.toList t'.toList = true then 2 else 0 := by
  rw [lessH]
  exact (if_neg (by decide)).trans (if_pos ⟨rfl, rfl⟩)
theorem eqP_num {y y' : Bool} {c x c' x' : Int} {t t' : ByteArray} {ks ks' : List Tree} : eqP (.mk 3 y c x t ks) (.mk 3 y' c' x' t' ks') = if c = c' ∧ x = x' then 2 else 0 := by
  rw [eqP]
  exact (if_neg (by decide)).trans ((if_pos rfl).trans ((if_neg (by decide)).trans (if_pos rfl)))
theorem eqP_text {y y' : Bool} {c x c' x' : Int} {t t' : ByteArray} {ks ks' : List Tree} : eqP (.mk 4 y c x t ks) (.mk 4 y' c' x' t' ks') = if t.toList = t'.toList then 2 else 0 := by
  rw [eqP]
  exact (if_neg (by decide)).trans ((if_pos rfl).trans ((if_neg (by decide)).trans ((if_neg (by decide)).trans (if_pos rfl))))
theorem order_one (a v : Tree) (ha : (wrongF a 0 1).1 = 0) (hv : (wrongF v 0 1).1 = 0) (hk : a.kd = v.kd) (h34 : a.kd = 3 ∨ a.kd = 4) :
    (lessH v a = 2 ∧ eqP v a = 0 ∧ lessH a v = 0) ∨ (lessH v a = 0 ∧ eqP v a = 2 ∧ lessH a v = 0) ∨ (lessH v a = 0 ∧ eqP v a = 0 ∧ lessH a v = 2) := by
  obtain ⟨k, y, c, x, t, ks⟩ := a
  obtain ⟨k', y', c', x', t', ks'⟩ := v
  have hk' : k = k' := hk
  subst hk'
  have h34' : k = 3 ∨ k = 4 := h34
  rcases h34' with rfl | rfl
  · rw [wf_num (by omega)] at ha hv
    simp only at ha hv
    rw [lessH_num, lessH_num, eqP_num]
    rcases Int.lt_trichotomy (Dm.V c' x') (Dm.V c x) with l | l | l
    · refine .inl ⟨if_pos ((Dm.sgn_neg_iff _).2 (by omega)), if_neg ?_, if_neg (fun q => by have := (Dm.sgn_neg_iff _).1 q; omega)⟩
      rintro ⟨rfl, rfl⟩
      omega
    · obtain ⟨rfl, rfl⟩ := Dm.oV_inj hv ha l
      exact .inr (.inl ⟨if_neg (fun q => by have := (Dm.sgn_neg_iff _).1 q; omega), if_pos ⟨rfl, rfl⟩, if_neg (fun q => by have := (Dm.sgn_neg_iff _).1 q; omega)⟩)
    · refine .inr (.inr ⟨if_neg (fun q => by have := (Dm.sgn_neg_iff _).1 q; omega), if_neg ?_, if_pos ((Dm.sgn_neg_iff _).2 (by omega))⟩)
      rintro ⟨rfl, rfl⟩
      omega
  · clear ha hv
    rw [lessH_text, lessH_text, eqP_text]
    rcases Dm.less_tri t'.toList t.toList with ⟨p, q, n⟩ | ⟨p, q, n⟩ | ⟨p, q, n⟩
    · exact .inl ⟨if_pos p, if_neg n, if_neg (by rw [q]; decide)⟩
    · exact .inr (.inr ⟨if_neg (by rw [p]; decide), if_neg n, if_pos q⟩)
    · exact .inr (.inl ⟨if_neg (by rw [p]; decide), if_pos n, if_neg (by rw [q]; decide)⟩)
end Go.Proofs.YtcidbhegnnedoaaGreatDoor

/- TestsOrder, whatever the two values. -/
namespace Go.Proofs.YtcidbhegnnedoaaGreatDoor
open Go.RowKit

def zTree : Tree := .mk 0 false 0 0 ⟨#[]⟩ []
theorem mem_zero (B : Nat) (w : World) : Mem B w zTree zT6 := by
  rw [zTree, Mem]
  exact ⟨by decide, by simp, none, 0, rfl, fun h => absurd rfl h⟩
abbrev oneT (k : Int) (a : Tree) : TS := .mk k a zTree false false []
theorem mem_one {B : Nat} {w : World} {a : Tree} {ka : Int} {y : Bool} {c x : Int} {s : ByteArray} {l : Option Addr} {n m : Nat} (k : Int) (h : Mem B w a (vA ka y c x s l n m)) : MemS B w (oneT k a) (tA k ka y c x s l n m) := by
  rw [MemS]
  exact ⟨by simp, _, _, _, _, _, _, _, _, _, _, _, _, none, 0, h, mem_zero B w, rfl, fun h => absurd rfl h⟩
theorem oneW_kd {a : Tree} (h : oneW a = 0) : a.kd = 3 ∨ a.kd = 4 := by
  have h0 := oneW0 h
  unfold oneW at h
  rw [if_pos h0] at h
  split at h
  · assumption
  · cases h
theorem one_wrong (k : Int) (a : Tree) (h : k = 3 ∨ k = 4 ∨ k = 5 ∨ k = 6) : wrongS (oneT k a) 1 = oneW a := by
  rcases h with rfl | rfl | rfl | rfl <;> simp [wrongS]
theorem one_wrong2 (a : Tree) : wrongS (oneT 2 a) 1 = valW a := by simp [wrongS]
theorem kd_of {g : Nat} (h : g = 0 ∨ g = 2) : kd g = 2 := by rcases h with rfl | rfl <;> rfl

theorem order_walk (a v : Tree) (ua uv : Array Value) (w : World) (Ma : Mem w.heap.size w a ua) (Mv : Mem w.heap.size w v uv) (hF : LT w ∧ SG w ∧ TSG w ∧ TabsIn w.heap.size w) :
    Calls Tryz.prog 4 #[.agg ua, .agg uv] w fun e w' => e = .returned (.bool true) ∧ Below w.heap.size w w' := by
  obtain ⟨hL, hS, hG, hT⟩ := hF
  obtain ⟨a0, a1, a2, a3, a4, a5, rfl⟩ := Ma.arr
  obtain ⟨v0, v1, v2, v3, v4, v5, rfl⟩ := Mv.arr
  obtain ⟨y, c, x, s, l, n, m, rfl, rfl, rfl, rfl, rfl, rfl⟩ := Ma.six
  obtain ⟨y', c', x', s', l', n', m', rfl, rfl, rfl, rfl, rfl, rfl⟩ := Mv.six
  have KA := hide (fun (wx : World) (hb : Below w.heap.size w wx) => alive8_any wx (hL.on hb) (hS.on hb) (hG.on hb) ((hT.below hb).mono hb.size))
  have KW := hide (fun (wx : World) (hb : Below w.heap.size w wx) => tWrong_any (oneT 3 a) _ w.heap.size wx hb.size (MemS.below hb (mem_one 3 Ma)) (hT.below hb))
  have KL := hide (fun (wx : World) (hb : Below w.heap.size w wx) => logicWrong_any v _ w.heap.size wx hb.size (Mem.below hb Mv) (hT.below hb))
  rw [one_wrong 3 a (by omega)] at KW
  by_cases hW : oneW a = 0
  · by_cases hV : (wrongF v 0 1).1 = 0
    · by_cases hk : a.kd = v.kd
      · have h34 := oneW_kd hW
        have hv0 := oneW0 hW
        have ha := valW0 hv0
        have O := order_one a v ha hV hk h34
        have S : ∀ k : Int, wrongS (oneT k a) 1 = 0 → ∀ g, doesS (oneT k a) v = g → ∀ wx, Below w.heap.size w wx → Calls Tryz.prog 9 #[.agg (tA k a.kd y c x s l n m), .agg (vA v.kd y' c' x' s' l' n' m')] wx fun e w' => ∃ r, e = .returned r ∧ r = told g ∧ Below wx.heap.size wx w' := fun k hk g hg wx hb => by
          subst hg
          exact z1 (says_right (oneT k a) v _ _ w.heap.size wx hb.size (MemS.below hb (mem_one k Ma)) (Mem.below hb Mv) (hT.below hb) hk hV)
        rw [← hk] at KL S
        rw [← hk]
        rw [hW] at KW
        rw [hV] at KL
        refine order_ok a.kd y c x s l n m y' c' x' s' l' n' m' (lessH v a) (eqP v a) (lessH a v) (2 - lessH a v) (2 - lessH v a) (yd (lessH v a)) (yd (eqP v a)) (yd (lessH a v)) w KA KW KL
          (hide (S 3 ((one_wrong 3 a (by omega)).trans hW) _ (by simp [doesS]))) (hide (S 2 ((one_wrong2 a).trans hv0) _ (by simp [doesS]))) (hide (S 5 ((one_wrong 5 a (by omega)).trans hW) _ (by simp [doesS])))
          (hide (S 4 ((one_wrong 4 a (by omega)).trans hW) _ (by simp [doesS]))) (hide (S 6 ((one_wrong 6 a (by omega)).trans hW) _ (by simp [doesS])))
          (hide fun wx => z1 (not_told _ (lessH_le a v) wx)) (hide fun wx => z1 (not_told _ (lessH_le v a) wx)) (kd_of ?_) (kd_of ?_) (kd_of ?_) rfl rfl rfl (hide ?_)
        · rcases O with ⟨h1, h2, h3⟩ | ⟨h1, h2, h3⟩ | ⟨h1, h2, h3⟩ <;> simp [h1]
        · rcases O with ⟨h1, h2, h3⟩ | ⟨h1, h2, h3⟩ | ⟨h1, h2, h3⟩ <;> simp [h2]
        · rcases O with ⟨h1, h2, h3⟩ | ⟨h1, h2, h3⟩ | ⟨h1, h2, h3⟩ <;> simp [h3]
        · rcases O with ⟨h1, h2, h3⟩ | ⟨h1, h2, h3⟩ | ⟨h1, h2, h3⟩ <;> simp [h1, h2, h3, yd]
      · exact order_early a.kd y c x s l n m v.kd y' c' x' s' l' n' m' _ _ w KA KW KL (.inr (.inr ⟨hW, hV, by simp [hk]⟩))
    · exact order_early a.kd y c x s l n m v.kd y' c' x' s' l' n' m' _ _ w KA KW KL (.inr (.inl ⟨hW, by simp [hV]⟩))
  · exact order_early a.kd y c x s l n m v.kd y' c' x' s' l' n' m' _ _ w KA KW KL (.inl (by simp [hW]))
end Go.Proofs.YtcidbhegnnedoaaGreatDoor
