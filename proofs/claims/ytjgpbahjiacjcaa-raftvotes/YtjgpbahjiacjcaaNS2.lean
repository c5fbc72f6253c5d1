/- Walks: heeds (raft), its way 2. Written by gen_ns.py and parted. -/
import Derived.Test.YtjgpbahjiacjcaaNS0
namespace Go.Proofs.Ytjgpbahjiacjcaa.RW
open Go.RowKit

set_option maxHeartbeats 8000000 in
set_option maxRecDepth 100000 in
theorem heeds_w2 (B p : Nat) (x : Rf.Node) (o : Own) (m : Rf.Msg) (g : Array Value) (w : World) (hk : WK B w p x [] o) (hg : Gv w g m) (hbig : m.items.length ≤ 4611686018427387904) (R1 : m.dest = x.id) (NR : ¬ (Rf.inB m.frm 1 x.n)) :
    Calls Try.prog 26 #[.pointer (some ⟨p, 0, none⟩), .agg g] w (PH x m w) := by
  have QR1 := hide R1
  have QNR := hide NR
  clear R1 NR
  obtain ⟨iv, rfl, hit⟩ := hg
  obtain ⟨ia, IL, ic, rfl, hIL, hic, _⟩ := SC.shp hit
  have HK := hide hk
  have HIT := hide hit
  have HX := hide (BK.new w 27 #[.int .i64 m.kind, .int .i64 m.frm, .int .i64 m.dest, .int .i64 m.term, .int .i64 m.index, .int .i64 m.logTerm, .int .i64 m.commit, .slice ia IL ic, .bool m.yes])
  have HBn := hide (below_new w (.cells #[.int .i64 m.kind, .int .i64 m.frm, .int .i64 m.dest, .int .i64 m.term, .int .i64 m.index, .int .i64 m.logTerm, .int .i64 m.commit, .slice ia IL ic, .bool m.yes] 27))
  have hILb : (IL : Int) ≤ 4611686018427387904 := by have := unhide hIL; omega
  have HILe := hide hIL
  clear hk hit hbig
  go_enter Try.func26, Try.ntmps26
  go_upto_region 1 with fail
  generalize w.alloc (.cells #[.int .i64 m.kind, .int .i64 m.frm, .int .i64 m.dest, .int .i64 m.term, .int .i64 m.index, .int .i64 m.logTerm, .int .i64 m.commit, .slice ia IL ic, .bool m.yes] 27) = w1 at HX HBn ⊢
  have HK1 := hide ((unhide HK).below (unhide HBn))
  generalize hbx : w.heap.size = bx at HX ⊢
  obtain ⟨la, LL, lc, va, VL, vc, na, NL, nc, ma, ML, mc, sa, SL, sc, HE, hLL, hVL, hNL, hML, hSL, ⟨r1, r2, r3, r4⟩, ⟨c0, c1, c2, c3, c4, c5, c6, c7, c8, c9, c10, c11⟩, ⟨f0, f1, f2, f3, f4, f5, f6, f7, f8, f9, f10, f11⟩⟩ := (unhide HK1).tell
  obtain ⟨g0, g1, g2, g3, g4, g5, g6, g7, g8⟩ := (show GX w1 bx _ _ _ _ _ _ _ _ _ from unhide HX).tell
  have hp := (unhide HK1).lo
  have hbl := (unhide HX).low
  have CI := hide ((Rf.inOrd_more m.items m.logTerm m.term) ▸ inOrder_any m.items (.slice ia IL ic) (max 1 m.logTerm) m.term w1.drew (TV.keep (kept (unhide HBn).drew) (unhide HIT)))
  have RETF : Hid (¬ heedB x m → ∀ n, PH x m w (.returned (.bool false)) (w1.drewN n)) := hide (fun q n => ⟨false, rfl, by simp [q], below_drewN (unhide HBn) n⟩)
  have r1 : m.dest = x.id := unhide QR1
  have d1 : (m.dest == x.id) = true := by simpa using r1
  have H1 := hide r1
  clear r1
  have r2 : ¬ (Rf.inB m.frm 1 x.n) := unhide QNR
  have d2 := decide_eq_false r2
  have FA := unhide RETF (fun q => r2 q.2.1)
  have FB := hide FA
  clear r2 FA
  simp only [List.append_eq, List.cons_append, List.nil_append]
  go_quiet ((go_at_call 29; exact Calls.quiet_of_same (within_any _ _ _ _)))
  go_wp2
  go_ret
  exact unhide FB _

end Go.Proofs.Ytjgpbahjiacjcaa.RW
