/- The law RepoOthers. -/
import Derived.Test.YtnegjbkbfgkkjaaGreatDoorG45
namespace Go.Proofs.YtnegjbkbfgkkjaaGreatDoor
open Go.RowKit Go.MapKept

theorem othersN {r : Rp.Repo ByteArray TbT} {N : Int} (h : RG N r) (c : CmT) {n : ByteArray} (hn : (if c.kind = 1 then c.table.name else c.name) ≠ n) (v : Int) : Rp.find (applyN r c).1 n v = Rp.find r n v := Rp.others h.inv (cmdR c) hn v

set_option maxRecDepth 100000 in
set_option maxHeartbeats 8000000 in
theorem others_walk (v : Value) (l : List CmT) (c : CmT) (cc : Array Value) (n : ByteArray) (vs : Int) (w : World) (hl : Ls w.heap.size w 10 (CmM w.heap.size w) l v) (hn : l.length * 16 ≤ 140737488355328) (hc : CmM w.heap.size w c cc) (hG : GdT w.heap.size w) :
    Calls Tryz.prog 7 #[v, .agg cc, .string n, .int .i64 vs] w fun e w' => e = .returned (.bool true) ∧ Below w.heap.size w w' := by
  obtain ⟨ia, oa, ra, ic, oc, rc, rfl, _⟩ := hc.open
  obtain ⟨la, lc, rfl, _⟩ := id hl.tell
  obtain ⟨w0, hw0⟩ : ∃ w0, w0 = w.alloc (.cells #[.int .i64 c.session, .int .i64 c.seq, .int .i64 c.kind, .string c.table.name, .int .i64 c.table.pol, .slice ia c.table.ins.length ic, .slice oa c.table.outs.length oc, .slice ra c.table.rules.length rc, .string c.name, .int .i64 c.back] 36) := ⟨_, rfl⟩
  have b0 : Below w.heap.size w w0 := by rw [hw0]; exact vbelow_new _ _
  have C0 : Blk w0 w.heap.size 36 #[.int .i64 c.session, .int .i64 c.seq, .int .i64 c.kind, .string c.table.name, .int .i64 c.table.pol, .slice ia c.table.ins.length ic, .slice oa c.table.outs.length oc, .slice ra c.table.rules.length rc, .string c.name, .int .i64 c.back] := by rw [hw0]; exact Blk.new _ _ _
  have AL := hide (alive_any w0 b0.size (hG.keep b0))
  have RN := hide (fun (wx : World) (hx : Below w.heap.size w wx) => run_any (B := w.heap.size) l _ wx hx.size (hG.keep hx) (hl.below hx fun x cs => CmM.below hx) hn)
  have AP := hide (fun (r : Rp.Repo ByteArray TbT) (cs : Array Value) (wx : World) (hx : Below w.heap.size w wx) (hr : RpM w.heap.size wx r cs) (hg : RG (l.length + 1 : Nat) r) => apply_any (B := w.heap.size) (N := ((l.length + 1 : Nat) : Int)) r cs c _ wx hx.size (hG.keep hx) hr (hc.below hx) hg (by omega))
  have FD := hide (fun (r : Rp.Repo ByteArray TbT) (cs : Array Value) (wx : World) (hx : Below w.heap.size w wx) (hr : RpM w.heap.size wx r cs) (hg : RG (l.length + 1 : Nat) r) => find_any (B := w.heap.size) r cs n vs wx hx.size hr hg.rise hg.inv.few)
  have ST := hide (fun (t : TbT) (u v : Array Value) (wx : World) (hx : Below w.heap.size w wx) (h1 : TbM w.heap.size wx t u) (h2 : TbM w.heap.size wx t v) => sameTable_any t u v wx hx.size h1 h2)
  have KC := hide (fun (wx : World) (hx : Below w0.heap.size w0 wx) => (C0.kept hx).at10)
  have HB0 := hide b0
  have hg0 := runN_RG l
  have HG1 := hide (show RG ((l.length + 1 : Nat) : Int) (runN l).1 from ⟨hg0.inv, fun e he => by have := hg0.next e he; omega, by have := hg0.app; omega⟩)
  have HG2 := hide (show RG ((l.length + 1 : Nat) : Int) (applyN (runN l).1 c).1 from by have := applyN_RG (by omega) hg0 c; simpa using this)
  have HON := hide (fun (hn : (if c.kind = 1 then c.table.name else c.name) ≠ n) => othersN hg0 c hn vs)
  obtain ⟨c0, c1, c2, c3, c4, c5, c6, c7, c8, c9⟩ := unhide KC w0 (Below.refl _ _)
  clear b0 C0 hl hc hG hg0
  go_enter Tryz.func7, Tryz.ntmps7
  go_upto_region 1 with fail
  rw [← hw0]
  clear hw0
  go_wp2_with fail
  refine (unhide AL).mono ?_
  rintro e w1 ⟨rfl, hb1⟩
  have HB1 := hide hb1
  obtain ⟨c0, c1, c2, c3, c4, c5, c6, c7, c8, c9⟩ := unhide KC w1 hb1
  clear hb1 AL
  obtain ⟨T, hT⟩ : ∃ T, T = if c.kind = 1 then c.table.name else c.name := ⟨_, rfl⟩
  obtain ⟨K, hK⟩ : ∃ K, K = c.kind := ⟨_, rfl⟩
  have HT := hide hT
  rw [← hT] at HON
  rw [← hK] at c2 HT
  clear hT
  by_cases hk : K = 1
  · subst hk
    by_cases ht : c.table.name = n
    · have gt : ((c.table.name).toList == n.toList) = true := by simp [ht]
      go_wp2_with fail
      exact bodyPost_ret (v := .bool true) (by simp [results, Tryz.results7, go_sem]) rfl ⟨rfl, below_via (unhide HB0) (unhide HB1)⟩
    · have gt : ((c.table.name).toList == n.toList) = false := by have q := sameS_eq (c.table.name) n; unfold sameS at q; rw [q]; exact decide_eq_false ht
      have HON2 := hide (unhide HON (by rw [unhide HT, if_pos rfl]; exact ht))
      clear ht HON
      go_wp2_with fail
      refine (unhide RN w1 (below_via (unhide HB0) (unhide HB1))).mono ?_
      rintro e w2 ⟨ev, tv, rv, rfl, hrw, _, hb2⟩
      obtain ⟨R, hR⟩ : ∃ R, R = (runN l).1 := ⟨_, rfl⟩
      rw [← hR] at hrw HG1 HG2 HON2 ⊢
      obtain ⟨xa, xc, ya, yc, rfl, rfl⟩ := hrw.shape
      obtain ⟨w3, hw3⟩ : ∃ w3, w3 = w2.alloc (.cells #[.slice xa R.entries.length xc, .slice ya R.seats.length yc, .int .i64 R.applied] 27) := ⟨_, rfl⟩
      have b3 : Below w2.heap.size w2 w3 := by rw [hw3]; exact vbelow_new _ _
      have X3 : Blk w3 w2.heap.size 27 #[.slice xa R.entries.length xc, .slice ya R.seats.length yc, .int .i64 R.applied] := by rw [hw3]; exact Blk.new _ _ _
      have HB3 := hide (below_via (below_via (unhide HB1) hb2) b3)
      have hb03 := below_via (unhide HB0) (unhide HB3)
      have hr3 := hrw.below b3 (below_via (below_via (unhide HB0) (unhide HB1)) hb2).size
      have A1 := hide (unhide AP R _ w3 hb03 hr3.rpm (unhide HG1))
      obtain ⟨c0, c1, c2, c3, c4, c5, c6, c7, c8, c9⟩ := unhide KC w3 (unhide HB3)
      obtain ⟨x0, x1, x2, _⟩ := X3.at3
      have HW3 := hide hw3
      have KX := hide (fun (wx : World) (hx : Below w3.heap.size w3 wx) => And.intro (X3.kept hx).at3 (hr3.below hx hb03.size).rpm)
      clear hw3 hrw hb2 X3 b3 hr3 hb03 hR
      go_upto_region 9 with fail
      rw [← unhide HW3]
      go_wp2_with fail
      refine (unhide A1).mono ?_
      rintro e w4 ⟨ev4, tv4, rfl, hrw4, hb4⟩
      obtain ⟨S, hS⟩ : ∃ S, S = applyN R c := ⟨_, rfl⟩
      rw [← hS] at hrw4 HG2 HON2 ⊢
      obtain ⟨xa4, xc4, ya4, yc4, rfl, rfl⟩ := hrw4.shape
      obtain ⟨w5, hw5⟩ : ∃ w5, w5 = (w4.alloc (.cells #[.slice xa4 S.1.entries.length xc4, .slice ya4 S.1.seats.length yc4, .int .i64 S.1.applied] 27)).alloc (.cells #[.int .i64 S.2.err, .int .i64 S.2.version] 39) := ⟨_, rfl⟩
      have b5 : Below w4.heap.size w4 w5 := by rw [hw5]; exact below_via (vbelow_new _ _) (vbelow_new _ _)
      have X5 : Blk w5 w4.heap.size 27 #[.slice xa4 S.1.entries.length xc4, .slice ya4 S.1.seats.length yc4, .int .i64 S.1.applied] := by rw [hw5]; exact (Blk.new _ _ _).kept (vbelow_new _ _)
      have hb35 := below_via hb4 b5
      have HB5 := hide (below_via (unhide HB3) hb35)
      have hb05 := below_via (unhide HB0) (unhide HB5)
      have hr5 := hrw4.below b5 (below_via (unhide HB0) (below_via (unhide HB3) hb4)).size
      obtain ⟨⟨x0, x1, x2, _⟩, hr3⟩ := unhide KX w5 hb35
      have F1 := hide (unhide FD R _ w5 hb05 hr3 (unhide HG1))
      have KY := hide (fun (wx : World) (hx : Below w5.heap.size w5 wx) => And.intro (X5.kept hx).at3 (hr5.below hx hb05.size).rpm)
      have HW5 := hide hw5
      have HB05 := hide hb05
      clear hw5 hrw4 hb4 X5 b5 hr5 hr3 hb05 hS A1 hb35 KX
      go_upto_region 10 with fail
      rw [← unhide HW5]
      go_wp2_with fail
      refine (unhide F1).mono ?_
      rintro e w6 ⟨tcs, rfl, hT6, hb6⟩
      obtain ⟨ja, pa, qa, jc, pc, qc, rfl⟩ := hT6.open
      obtain ⟨w7, hw7⟩ : ∃ w7, w7 = w6.alloc (.cells #[.string (findT R n vs).name, .int .i64 (findT R n vs).pol, .slice ja (findT R n vs).ins.length jc, .slice pa (findT R n vs).outs.length pc, .slice qa (findT R n vs).rules.length qc] 34) := ⟨_, rfl⟩
      have b7 : Below w6.heap.size w6 w7 := by rw [hw7]; exact vbelow_new _ _
      have T7 : Blk w7 w6.heap.size 34 #[.string (findT R n vs).name, .int .i64 (findT R n vs).pol, .slice ja (findT R n vs).ins.length jc, .slice pa (findT R n vs).outs.length pc, .slice qa (findT R n vs).rules.length qc] := by rw [hw7]; exact Blk.new _ _ _
      have hb57 := below_via hb6 b7
      have HB7 := hide (below_via (unhide HB05) hb57)
      obtain ⟨⟨x0, x1, x2, _⟩, hr5⟩ := unhide KY w7 hb57
      have F2 := hide (unhide FD S.1 _ w7 (unhide HB7) hr5 (unhide HG2))
      have hTm := hT6.below (b7.mono (below_via (unhide HB05) hb6).size)
      have KT := hide (fun (wx : World) (hx : Below w7.heap.size w7 wx) => And.intro (T7.kept hx).at5 (hTm.below (hx.mono (unhide HB7).size)))
      have HW7 := hide hw7
      clear hw7 hT6 hb6 T7 b7 hb57 hr5 hTm F1 KY
      go_upto_region 11 with fail
      rw [← unhide HW7]
      go_wp2_with fail
      refine (unhide F2).mono ?_
      rintro e w8 ⟨tcs8, rfl, hT8, hb8⟩
      have hft : findT S.1 n vs = findT R n vs := by unfold findT; rw [unhide HON2]
      rw [hft] at hT8
      rw [unhide HON2]
      obtain ⟨ja8, pa8, qa8, jc8, pc8, qc8, rfl⟩ := hT8.open
      obtain ⟨w9, hw9⟩ : ∃ w9, w9 = w8.alloc (.cells #[.string (findT R n vs).name, .int .i64 (findT R n vs).pol, .slice ja8 (findT R n vs).ins.length jc8, .slice pa8 (findT R n vs).outs.length pc8, .slice qa8 (findT R n vs).rules.length qc8] 34) := ⟨_, rfl⟩
      have b9 : Below w8.heap.size w8 w9 := by rw [hw9]; exact vbelow_new _ _
      have T9 : Blk w9 w8.heap.size 34 #[.string (findT R n vs).name, .int .i64 (findT R n vs).pol, .slice ja8 (findT R n vs).ins.length jc8, .slice pa8 (findT R n vs).outs.length pc8, .slice qa8 (findT R n vs).rules.length qc8] := by rw [hw9]; exact Blk.new _ _ _
      have hb79 := below_via hb8 b9
      have HB9 := hide (below_via (unhide HB7) hb79)
      obtain ⟨⟨t0, t1, t2, t3, t4, _⟩, hTm⟩ := unhide KT w9 hb79
      have S9 := hide (unhide ST (findT R n vs) _ _ w9 (unhide HB9) hTm (hT8.below (b9.mono (below_via (unhide HB7) hb8).size)))
      obtain ⟨y0, y1, y2, y3, y4, _⟩ := T9.at5
      have HW9 := hide hw9
      have ge : ((Rp.find R n vs).2 == (Rp.find R n vs).2) = true := by simp
      clear hw9 hT8 hb8 T9 b9 hb79 hTm F2 KT hft
      go_upto_region 12 with fail
      rw [← unhide HW9]
      go_wp2_with fail
      refine (unhide S9).mono ?_
      rintro e w10 ⟨rfl, hb10⟩
      have HB10 := hide (below_via (unhide HB9) hb10)
      clear hb10
      go_wp2
      exact bodyPost_ret (v := .bool true) (by simp [results, Tryz.results7, go_sem]) rfl ⟨rfl, unhide HB10⟩
  · have HKK := hide hk
    by_cases ht : c.name = n
    · have gt : ((c.name).toList == n.toList) = true := by simp [ht]
      go_wp2_with fail
      exact bodyPost_ret (v := .bool true) (by simp [results, Tryz.results7, go_sem]) rfl ⟨rfl, below_via (unhide HB0) (unhide HB1)⟩
    · have gt : ((c.name).toList == n.toList) = false := by have q := sameS_eq (c.name) n; unfold sameS at q; rw [q]; exact decide_eq_false ht
      have HON2 := hide (unhide HON (by rw [unhide HT, if_neg (unhide HKK)]; exact ht))
      clear ht HON
      go_wp2_with fail
      refine (unhide RN w1 (below_via (unhide HB0) (unhide HB1))).mono ?_
      rintro e w2 ⟨ev, tv, rv, rfl, hrw, _, hb2⟩
      obtain ⟨R, hR⟩ : ∃ R, R = (runN l).1 := ⟨_, rfl⟩
      rw [← hR] at hrw HG1 HG2 HON2 ⊢
      obtain ⟨xa, xc, ya, yc, rfl, rfl⟩ := hrw.shape
      obtain ⟨w3, hw3⟩ : ∃ w3, w3 = w2.alloc (.cells #[.slice xa R.entries.length xc, .slice ya R.seats.length yc, .int .i64 R.applied] 27) := ⟨_, rfl⟩
      have b3 : Below w2.heap.size w2 w3 := by rw [hw3]; exact vbelow_new _ _
      have X3 : Blk w3 w2.heap.size 27 #[.slice xa R.entries.length xc, .slice ya R.seats.length yc, .int .i64 R.applied] := by rw [hw3]; exact Blk.new _ _ _
      have HB3 := hide (below_via (below_via (unhide HB1) hb2) b3)
      have hb03 := below_via (unhide HB0) (unhide HB3)
      have hr3 := hrw.below b3 (below_via (below_via (unhide HB0) (unhide HB1)) hb2).size
      have A1 := hide (unhide AP R _ w3 hb03 hr3.rpm (unhide HG1))
      obtain ⟨c0, c1, c2, c3, c4, c5, c6, c7, c8, c9⟩ := unhide KC w3 (unhide HB3)
      obtain ⟨x0, x1, x2, _⟩ := X3.at3
      have HW3 := hide hw3
      have KX := hide (fun (wx : World) (hx : Below w3.heap.size w3 wx) => And.intro (X3.kept hx).at3 (hr3.below hx hb03.size).rpm)
      clear hw3 hrw hb2 X3 b3 hr3 hb03 hR
      go_upto_region 9 with fail
      rw [← unhide HW3]
      go_wp2_with fail
      refine (unhide A1).mono ?_
      rintro e w4 ⟨ev4, tv4, rfl, hrw4, hb4⟩
      obtain ⟨S, hS⟩ : ∃ S, S = applyN R c := ⟨_, rfl⟩
      rw [← hS] at hrw4 HG2 HON2 ⊢
      obtain ⟨xa4, xc4, ya4, yc4, rfl, rfl⟩ := hrw4.shape
      obtain ⟨w5, hw5⟩ : ∃ w5, w5 = (w4.alloc (.cells #[.slice xa4 S.1.entries.length xc4, .slice ya4 S.1.seats.length yc4, .int .i64 S.1.applied] 27)).alloc (.cells #[.int .i64 S.2.err, .int .i64 S.2.version] 39) := ⟨_, rfl⟩
      have b5 : Below w4.heap.size w4 w5 := by rw [hw5]; exact below_via (vbelow_new _ _) (vbelow_new _ _)
      have X5 : Blk w5 w4.heap.size 27 #[.slice xa4 S.1.entries.length xc4, .slice ya4 S.1.seats.length yc4, .int .i64 S.1.applied] := by rw [hw5]; exact (Blk.new _ _ _).kept (vbelow_new _ _)
      have hb35 := below_via hb4 b5
      have HB5 := hide (below_via (unhide HB3) hb35)
      have hb05 := below_via (unhide HB0) (unhide HB5)
      have hr5 := hrw4.below b5 (below_via (unhide HB0) (below_via (unhide HB3) hb4)).size
      obtain ⟨⟨x0, x1, x2, _⟩, hr3⟩ := unhide KX w5 hb35
      have F1 := hide (unhide FD R _ w5 hb05 hr3 (unhide HG1))
      have KY := hide (fun (wx : World) (hx : Below w5.heap.size w5 wx) => And.intro (X5.kept hx).at3 (hr5.below hx hb05.size).rpm)
      have HW5 := hide hw5
      have HB05 := hide hb05
      clear hw5 hrw4 hb4 X5 b5 hr5 hr3 hb05 hS A1 hb35 KX
      go_upto_region 10 with fail
      rw [← unhide HW5]
      go_wp2_with fail
      refine (unhide F1).mono ?_
      rintro e w6 ⟨tcs, rfl, hT6, hb6⟩
      obtain ⟨ja, pa, qa, jc, pc, qc, rfl⟩ := hT6.open
      obtain ⟨w7, hw7⟩ : ∃ w7, w7 = w6.alloc (.cells #[.string (findT R n vs).name, .int .i64 (findT R n vs).pol, .slice ja (findT R n vs).ins.length jc, .slice pa (findT R n vs).outs.length pc, .slice qa (findT R n vs).rules.length qc] 34) := ⟨_, rfl⟩
      have b7 : Below w6.heap.size w6 w7 := by rw [hw7]; exact vbelow_new _ _
      have T7 : Blk w7 w6.heap.size 34 #[.string (findT R n vs).name, .int .i64 (findT R n vs).pol, .slice ja (findT R n vs).ins.length jc, .slice pa (findT R n vs).outs.length pc, .slice qa (findT R n vs).rules.length qc] := by rw [hw7]; exact Blk.new _ _ _
      have hb57 := below_via hb6 b7
      have HB7 := hide (below_via (unhide HB05) hb57)
      obtain ⟨⟨x0, x1, x2, _⟩, hr5⟩ := unhide KY w7 hb57
      have F2 := hide (unhide FD S.1 _ w7 (unhide HB7) hr5 (unhide HG2))
      have hTm := hT6.below (b7.mono (below_via (unhide HB05) hb6).size)
      have KT := hide (fun (wx : World) (hx : Below w7.heap.size w7 wx) => And.intro (T7.kept hx).at5 (hTm.below (hx.mono (unhide HB7).size)))
      have HW7 := hide hw7
      clear hw7 hT6 hb6 T7 b7 hb57 hr5 hTm F1 KY
      go_upto_region 11 with fail
      rw [← unhide HW7]
      go_wp2_with fail
      refine (unhide F2).mono ?_
      rintro e w8 ⟨tcs8, rfl, hT8, hb8⟩
      have hft : findT S.1 n vs = findT R n vs := by unfold findT; rw [unhide HON2]
      rw [hft] at hT8
      rw [unhide HON2]
      obtain ⟨ja8, pa8, qa8, jc8, pc8, qc8, rfl⟩ := hT8.open
      obtain ⟨w9, hw9⟩ : ∃ w9, w9 = w8.alloc (.cells #[.string (findT R n vs).name, .int .i64 (findT R n vs).pol, .slice ja8 (findT R n vs).ins.length jc8, .slice pa8 (findT R n vs).outs.length pc8, .slice qa8 (findT R n vs).rules.length qc8] 34) := ⟨_, rfl⟩
      have b9 : Below w8.heap.size w8 w9 := by rw [hw9]; exact vbelow_new _ _
      have T9 : Blk w9 w8.heap.size 34 #[.string (findT R n vs).name, .int .i64 (findT R n vs).pol, .slice ja8 (findT R n vs).ins.length jc8, .slice pa8 (findT R n vs).outs.length pc8, .slice qa8 (findT R n vs).rules.length qc8] := by rw [hw9]; exact Blk.new _ _ _
      have hb79 := below_via hb8 b9
      have HB9 := hide (below_via (unhide HB7) hb79)
      obtain ⟨⟨t0, t1, t2, t3, t4, _⟩, hTm⟩ := unhide KT w9 hb79
      have S9 := hide (unhide ST (findT R n vs) _ _ w9 (unhide HB9) hTm (hT8.below (b9.mono (below_via (unhide HB7) hb8).size)))
      obtain ⟨y0, y1, y2, y3, y4, _⟩ := T9.at5
      have HW9 := hide hw9
      have ge : ((Rp.find R n vs).2 == (Rp.find R n vs).2) = true := by simp
      clear hw9 hT8 hb8 T9 b9 hb79 hTm F2 KT hft
      go_upto_region 12 with fail
      rw [← unhide HW9]
      go_wp2_with fail
      refine (unhide S9).mono ?_
      rintro e w10 ⟨rfl, hb10⟩
      have HB10 := hide (below_via (unhide HB9) hb10)
      clear hb10
      go_wp2
      exact bodyPost_ret (v := .bool true) (by simp [results, Tryz.results7, go_sem]) rfl ⟨rfl, unhide HB10⟩
end Go.Proofs.YtnegjbkbfgkkjaaGreatDoor
