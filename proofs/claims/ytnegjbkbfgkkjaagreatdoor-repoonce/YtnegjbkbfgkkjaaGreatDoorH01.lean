/- The law RepoOnce. -/
import Derived.Test.YtnegjbkbfgkkjaaGreatDoorG45
namespace Go.Proofs.YtnegjbkbfgkkjaaGreatDoor
open Go.RowKit Go.MapKept

theorem onceN {r : Rp.Repo ByteArray TbT} {N : Int} (h : RG N r) (c : CmT) : applyN (applyN r c).1 c = applyN r c := Rp.once r h.inv (cmdR c)

set_option maxRecDepth 100000 in
set_option maxHeartbeats 8000000 in
theorem once_walk (v : Value) (l : List CmT) (c : CmT) (cc : Array Value) (w : World) (hl : Ls w.heap.size w 10 (CmM w.heap.size w) l v) (hn : l.length * 16 ≤ 140737488355328) (hc : CmM w.heap.size w c cc) (hG : GdT w.heap.size w) :
    Calls Tryz.prog 4 #[v, .agg cc] w fun e w' => e = .returned (.bool true) ∧ Below w.heap.size w w' := by
  obtain ⟨ia, oa, ra, ic, oc, rc, rfl, _⟩ := hc.open
  obtain ⟨la, lc, rfl, _⟩ := id hl.tell
  obtain ⟨w0, hw0⟩ : ∃ w0, w0 = w.alloc (.cells #[.int .i64 c.session, .int .i64 c.seq, .int .i64 c.kind, .string c.table.name, .int .i64 c.table.pol, .slice ia c.table.ins.length ic, .slice oa c.table.outs.length oc, .slice ra c.table.rules.length rc, .string c.name, .int .i64 c.back] 36) := ⟨_, rfl⟩
  have b0 : Below w.heap.size w w0 := by rw [hw0]; exact vbelow_new _ _
  have C0 : Blk w0 w.heap.size 36 #[.int .i64 c.session, .int .i64 c.seq, .int .i64 c.kind, .string c.table.name, .int .i64 c.table.pol, .slice ia c.table.ins.length ic, .slice oa c.table.outs.length oc, .slice ra c.table.rules.length rc, .string c.name, .int .i64 c.back] := by rw [hw0]; exact Blk.new _ _ _
  have AL := hide (alive_any w0 b0.size (hG.keep b0))
  have RN := hide (fun (wx : World) (hx : Below w.heap.size w wx) => run_any (B := w.heap.size) l _ wx hx.size (hG.keep hx) (hl.below hx fun x cs => CmM.below hx) hn)
  have AP := hide (fun (r : Rp.Repo ByteArray TbT) (cs : Array Value) (wx : World) (hx : Below w.heap.size w wx) (hr : RpM w.heap.size wx r cs) (hg : RG (l.length + 1 : Nat) r) => apply_any (B := w.heap.size) (N := ((l.length + 1 : Nat) : Int)) r cs c _ wx hx.size (hG.keep hx) hr (hc.below hx) hg (by omega))
  have SM := hide (fun (r : Rp.Repo ByteArray TbT) (u v : Array Value) (wx : World) (hx : Below w.heap.size w wx) (h1 : RpM w.heap.size wx r u) (h2 : RpM w.heap.size wx r v) => same_any r u v wx hx.size h1 h2)
  have KC := hide (fun (wx : World) (hx : Below w0.heap.size w0 wx) => (C0.kept hx).at10)
  have HB0 := hide b0
  have hg0 := runN_RG l
  have HG1 := hide (show RG ((l.length + 1 : Nat) : Int) (runN l).1 from ⟨hg0.inv, fun e he => by have := hg0.next e he; omega, by have := hg0.app; omega⟩)
  have HG2 := hide (show RG ((l.length + 1 : Nat) : Int) (applyN (runN l).1 c).1 from by have := applyN_RG (by omega) hg0 c; simpa using this)
  have HON := hide (onceN hg0 c)
  obtain ⟨c0, c1, c2, c3, c4, c5, c6, c7, c8, c9⟩ := unhide KC w0 (Below.refl _ _)
  clear b0 C0 hl hc hG hg0
  go_enter Tryz.func4, Tryz.ntmps4
  go_upto_region 1 with fail
  rw [← hw0]
  clear hw0
  go_wp2_with fail
  refine (unhide AL).mono ?_
  rintro e w1 ⟨rfl, hb1⟩
  have HB1 := hide hb1
  clear hb1 AL
  go_wp2_with fail
  refine (unhide RN w1 (below_via (unhide HB0) (unhide HB1))).mono ?_
  rintro e w2 ⟨ev, tv, rv, rfl, hrw, _, hb2⟩
  obtain ⟨R, hR⟩ : ∃ R, R = (runN l).1 := ⟨_, rfl⟩
  rw [← hR] at hrw HG1 HG2 HON ⊢
  obtain ⟨xa, xc, ya, yc, rfl, rfl⟩ := hrw.shape
  obtain ⟨w3, hw3⟩ : ∃ w3, w3 = w2.alloc (.cells #[.slice xa R.entries.length xc, .slice ya R.seats.length yc, .int .i64 R.applied] 27) := ⟨_, rfl⟩
  have b3 : Below w2.heap.size w2 w3 := by rw [hw3]; exact vbelow_new _ _
  have X3 : Blk w3 w2.heap.size 27 #[.slice xa R.entries.length xc, .slice ya R.seats.length yc, .int .i64 R.applied] := by rw [hw3]; exact Blk.new _ _ _
  have HB3 := hide (below_via (below_via (unhide HB1) hb2) b3)
  have hb03 := below_via (unhide HB0) (unhide HB3)
  have hr3 := (hrw.below b3 (below_via (below_via (unhide HB0) (unhide HB1)) hb2).size).rpm
  have A1 := hide (unhide AP R _ w3 hb03 hr3 (unhide HG1))
  obtain ⟨c0, c1, c2, c3, c4, c5, c6, c7, c8, c9⟩ := unhide KC w3 (unhide HB3)
  obtain ⟨x0, x1, x2, _⟩ := X3.at3
  have HW3 := hide hw3
  clear hw3 hrw hb2 X3 b3 hr3 hb03 hR
  go_upto_region 4 with fail
  rw [← unhide HW3]
  go_wp2_with fail
  refine (unhide A1).mono ?_
  rintro e w4 ⟨ev4, tv4, rfl, hrw4, hb4⟩
  obtain ⟨S, hS⟩ : ∃ S, S = applyN R c := ⟨_, rfl⟩
  rw [← hS] at hrw4 HG2 HON ⊢
  obtain ⟨xa4, xc4, ya4, yc4, rfl, rfl⟩ := hrw4.shape
  obtain ⟨w5, hw5⟩ : ∃ w5, w5 = (w4.alloc (.cells #[.slice xa4 S.1.entries.length xc4, .slice ya4 S.1.seats.length yc4, .int .i64 S.1.applied] 27)).alloc (.cells #[.int .i64 S.2.err, .int .i64 S.2.version] 39) := ⟨_, rfl⟩
  have b5 : Below w4.heap.size w4 w5 := by rw [hw5]; exact below_via (vbelow_new _ _) (vbelow_new _ _)
  have X5 : Blk w5 w4.heap.size 27 #[.slice xa4 S.1.entries.length xc4, .slice ya4 S.1.seats.length yc4, .int .i64 S.1.applied] := by rw [hw5]; exact (Blk.new _ _ _).kept (vbelow_new _ _)
  have Y5 : Blk w5 (w4.heap.size + 1) 39 #[.int .i64 S.2.err, .int .i64 S.2.version] := by rw [hw5]; exact Blk.new1 _ _ _ _
  have HB5 := hide (below_via (below_via (unhide HB3) hb4) b5)
  have hb05 := below_via (unhide HB0) (unhide HB5)
  have hr5 := (hrw4.below b5 (below_via (unhide HB0) (below_via (unhide HB3) hb4)).size)
  have A2 := hide (unhide AP S.1 _ w5 hb05 hr5.rpm (unhide HG2))
  obtain ⟨c0, c1, c2, c3, c4, c5, c6, c7, c8, c9⟩ := unhide KC w5 (unhide HB5)
  obtain ⟨x0, x1, x2, _⟩ := X5.at3
  have HW5 := hide hw5
  have KX := hide (fun (wx : World) (hx : Below w5.heap.size w5 wx) => And.intro (X5.kept hx).at3 (And.intro (Y5.kept hx).at2 (hr5.below hx (by have := hb05.size; exact this)).rpm))
  clear hw5 hrw4 hb4 X5 Y5 b5 hr5 hb05 hS A1
  go_upto_region 5 with fail
  rw [← unhide HW5]
  go_wp2_with fail
  refine (unhide A2).mono ?_
  rintro e w6 ⟨ev6, tv6, rfl, hrw6, hb6⟩
  rw [unhide HON] at hrw6 ⊢
  obtain ⟨xa6, xc6, ya6, yc6, rfl, rfl⟩ := hrw6.shape
  obtain ⟨w7, hw7⟩ : ∃ w7, w7 = (w6.alloc (.cells #[.slice xa6 S.1.entries.length xc6, .slice ya6 S.1.seats.length yc6, .int .i64 S.1.applied] 27)).alloc (.cells #[.int .i64 S.2.err, .int .i64 S.2.version] 39) := ⟨_, rfl⟩
  have b7 : Below w6.heap.size w6 w7 := by rw [hw7]; exact below_via (vbelow_new _ _) (vbelow_new _ _)
  have X7 : Blk w7 w6.heap.size 27 #[.slice xa6 S.1.entries.length xc6, .slice ya6 S.1.seats.length yc6, .int .i64 S.1.applied] := by rw [hw7]; exact (Blk.new _ _ _).kept (vbelow_new _ _)
  have Y7 : Blk w7 (w6.heap.size + 1) 39 #[.int .i64 S.2.err, .int .i64 S.2.version] := by rw [hw7]; exact Blk.new1 _ _ _ _
  have hb57 := below_via hb6 b7
  have HB7 := hide (below_via (unhide HB0) (below_via (unhide HB5) hb57))
  obtain ⟨⟨x0, x1, x2, _⟩, ⟨y0, y1, _⟩, hr5⟩ := unhide KX w7 hb57
  obtain ⟨p0, p1, p2, _⟩ := X7.at3
  obtain ⟨q0, q1, _⟩ := Y7.at2
  have hr7 := (hrw6.below b7 (below_via (unhide HB0) (below_via (unhide HB5) hb6)).size).rpm
  have SS := hide (unhide SM S.1 _ _ w7 (unhide HB7) hr5 hr7)
  have HW7 := hide hw7
  clear hw7 hrw6 hb6 X7 Y7 b7 hr5 hr7 hb57 A2 KX
  go_upto_region 6 with fail
  rw [← unhide HW7]
  go_wp2_with fail
  refine (unhide SS).mono ?_
  rintro e w8 ⟨rfl, hb8⟩
  have HB8 := hide (below_via (unhide HB7) hb8)
  clear hb8
  go_wp2
  exact bodyPost_ret (v := .bool true) (by simp [results, Tryz.results4, go_sem]) rfl ⟨rfl, unhide HB8⟩
end Go.Proofs.YtnegjbkbfgkkjaaGreatDoor
