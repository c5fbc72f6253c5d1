/- Walks: heeds (raft), its way 9. Written by gen_ns.py and parted. -/
import Derived.Test.YtneepoaimbnneaaNS0
namespace Go.Proofs.Ytneepoaimbnneaa.RW
open Go.RowKit

set_option maxHeartbeats 8000000 in
set_option maxRecDepth 100000 in
theorem heeds_w1 (B p : Nat) (x : Rf.Node) (o : Own) (m : Rf.Msg) (g : Array Value) (w : World) (hk : WK B w p x [] o) (hg : Gv w g m) (hbig : m.items.length ≤ 4611686018427387904)  (NR : ¬ (m.dest = x.id)) :
    Calls Try.prog 43 #[.pointer (some ⟨p, 0, none⟩), .agg g] w (PH x m w) := by
  have QNR := hide NR
  clear NR
  obtain ⟨iv, rfl, hit⟩ := hg
  obtain ⟨ia, IL, ic, rfl, hIL, hic, _⟩ := SC.shp hit
  have HK := hide hk
  have HIT := hide hit
  have HX := hide (BK.new w 40 #[.int .i64 m.kind, .int .i64 m.frm, .int .i64 m.dest, .int .i64 m.term, .int .i64 m.index, .int .i64 m.logTerm, .int .i64 m.commit, .slice ia IL ic, .bool m.yes])
  have HBn := hide (below_new w (.cells #[.int .i64 m.kind, .int .i64 m.frm, .int .i64 m.dest, .int .i64 m.term, .int .i64 m.index, .int .i64 m.logTerm, .int .i64 m.commit, .slice ia IL ic, .bool m.yes] 40))
  have hILb : (IL : Int) ≤ 4611686018427387904 := by have := unhide hIL; omega
  have HILe := hide hIL
  clear hk hit hbig
  go_enter Try.func43, Try.ntmps43
  go_upto_region 1 with fail
  generalize w.alloc (.cells #[.int .i64 m.kind, .int .i64 m.frm, .int .i64 m.dest, .int .i64 m.term, .int .i64 m.index, .int .i64 m.logTerm, .int .i64 m.commit, .slice ia IL ic, .bool m.yes] 40) = w1 at HX HBn ⊢
  have HK1 := hide ((unhide HK).below (unhide HBn))
  generalize hbx : w.heap.size = bx at HX ⊢
  obtain ⟨la, LL, lc, va, VL, vc, na, NL, nc, ma, ML, mc, sa, SL, sc, HE, hLL, hVL, hNL, hML, hSL, ⟨r1, r2, r3, r4⟩, ⟨c0, c1, c2, c3, c4, c5, c6, c7, c8, c9, c10, c11⟩, ⟨f0, f1, f2, f3, f4, f5, f6, f7, f8, f9, f10, f11⟩⟩ := (unhide HK1).tell
  obtain ⟨g0, g1, g2, g3, g4, g5, g6, g7, g8⟩ := (show GX w1 bx _ _ _ _ _ _ _ _ _ from unhide HX).tell
  have hp := (unhide HK1).lo
  have hbl := (unhide HX).low
  have CI := hide ((Rf.inOrd_more m.items m.logTerm m.term) ▸ inOrder_any m.items (.slice ia IL ic) (max 1 m.logTerm) m.term w1.drew (TV.keep (kept (unhide HBn).drew) (unhide HIT)))
  have RETF : Hid (¬ heedB x m → ∀ n, PH x m w (.returned (.bool false)) (w1.drewN n)) := hide (fun q n => ⟨false, rfl, by simp [q], below_drewN (unhide HBn) n⟩)
  have r1 : ¬ (m.dest = x.id) := unhide QNR
  have d1 : (m.dest == x.id) = false := by simpa using r1
  have FA := unhide RETF (fun q => r1 q.1)
  have FB := hide FA
  clear r1 FA
  simp only [List.append_eq, List.cons_append, List.nil_append]
  go_quiet ((go_at_call 56; exact Calls.quiet_of_same (within_any _ _ _ _)))
  go_wp2
  go_ret
  exact unhide FB _

end Go.Proofs.Ytneepoaimbnneaa.RW

namespace Go.Proofs.Ytneepoaimbnneaa.RW
open Go.RowKit

set_option maxHeartbeats 8000000 in
set_option maxRecDepth 100000 in
theorem heeds_w2 (B p : Nat) (x : Rf.Node) (o : Own) (m : Rf.Msg) (g : Array Value) (w : World) (hk : WK B w p x [] o) (hg : Gv w g m) (hbig : m.items.length ≤ 4611686018427387904) (R1 : m.dest = x.id) (NR : ¬ (Rf.inB m.frm 1 x.n)) :
    Calls Try.prog 43 #[.pointer (some ⟨p, 0, none⟩), .agg g] w (PH x m w) := by
  have QR1 := hide R1
  have QNR := hide NR
  clear R1 NR
  obtain ⟨iv, rfl, hit⟩ := hg
  obtain ⟨ia, IL, ic, rfl, hIL, hic, _⟩ := SC.shp hit
  have HK := hide hk
  have HIT := hide hit
  have HX := hide (BK.new w 40 #[.int .i64 m.kind, .int .i64 m.frm, .int .i64 m.dest, .int .i64 m.term, .int .i64 m.index, .int .i64 m.logTerm, .int .i64 m.commit, .slice ia IL ic, .bool m.yes])
  have HBn := hide (below_new w (.cells #[.int .i64 m.kind, .int .i64 m.frm, .int .i64 m.dest, .int .i64 m.term, .int .i64 m.index, .int .i64 m.logTerm, .int .i64 m.commit, .slice ia IL ic, .bool m.yes] 40))
  have hILb : (IL : Int) ≤ 4611686018427387904 := by have := unhide hIL; omega
  have HILe := hide hIL
  clear hk hit hbig
  go_enter Try.func43, Try.ntmps43
  go_upto_region 1 with fail
  generalize w.alloc (.cells #[.int .i64 m.kind, .int .i64 m.frm, .int .i64 m.dest, .int .i64 m.term, .int .i64 m.index, .int .i64 m.logTerm, .int .i64 m.commit, .slice ia IL ic, .bool m.yes] 40) = w1 at HX HBn ⊢
  have HK1 := hide ((unhide HK).below (unhide HBn))
  generalize hbx : w.heap.size = bx at HX ⊢
  obtain ⟨la, LL, lc, va, VL, vc, na, NL, nc, ma, ML, mc, sa, SL, sc, HE, hLL, hVL, hNL, hML, hSL, ⟨r1, r2, r3, r4⟩, ⟨c0, c1, c2, c3, c4, c5, c6, c7, c8, c9, c10, c11⟩, ⟨f0, f1, f2, f3, f4, f5, f6, f7, f8, f9, f10, f11⟩⟩ := (unhide HK1).tell
  obtain ⟨g0, g1, g2, g3, g4, g5, g6, g7, g8⟩ := (show GX w1 bx _ _ _ _ _ _ _ _ _ from unhide HX).tell
  have hp := (unhide HK1).lo
  have hbl := (unhide HX).low
  have CI := hide ((Rf.inOrd_more m.items m.logTerm m.term) ▸ inOrder_any m.items (.slice ia IL ic) (max 1 m.logTerm) m.term w1.drew (TV.keep (kept (unhide HBn).drew) (unhide HIT)))
  have RETF : Hid (¬ heedB x m → ∀ n, PH x m w (.returned (.bool false)) (w1.drewN n)) := hide (fun q n => ⟨false, rfl, by simp [q], below_drewN (unhide HBn) n⟩)
  have r1 : m.dest = x.id := unhide QR1
  have d1 : (m.dest == x.id) = true := by simpa using r1
  have H1 := hide r1
  clear r1
  have r2 : ¬ (Rf.inB m.frm 1 x.n) := unhide QNR
  have d2 := decide_eq_false r2
  have FA := unhide RETF (fun q => r2 q.2.1)
  have FB := hide FA
  clear r2 FA
  simp only [List.append_eq, List.cons_append, List.nil_append]
  go_quiet ((go_at_call 56; exact Calls.quiet_of_same (within_any _ _ _ _)))
  go_wp2
  go_ret
  exact unhide FB _

end Go.Proofs.Ytneepoaimbnneaa.RW

namespace Go.Proofs.Ytneepoaimbnneaa.RW
open Go.RowKit

set_option maxHeartbeats 8000000 in
set_option maxRecDepth 100000 in
theorem heeds_w3 (B p : Nat) (x : Rf.Node) (o : Own) (m : Rf.Msg) (g : Array Value) (w : World) (hk : WK B w p x [] o) (hg : Gv w g m) (hbig : m.items.length ≤ 4611686018427387904) (R1 : m.dest = x.id) (R2 : Rf.inB m.frm 1 x.n) (NR : ¬ (m.frm ≠ x.id)) :
    Calls Try.prog 43 #[.pointer (some ⟨p, 0, none⟩), .agg g] w (PH x m w) := by
  have QR1 := hide R1
  have QR2 := hide R2
  have QNR := hide NR
  clear R1 R2 NR
  obtain ⟨iv, rfl, hit⟩ := hg
  obtain ⟨ia, IL, ic, rfl, hIL, hic, _⟩ := SC.shp hit
  have HK := hide hk
  have HIT := hide hit
  have HX := hide (BK.new w 40 #[.int .i64 m.kind, .int .i64 m.frm, .int .i64 m.dest, .int .i64 m.term, .int .i64 m.index, .int .i64 m.logTerm, .int .i64 m.commit, .slice ia IL ic, .bool m.yes])
  have HBn := hide (below_new w (.cells #[.int .i64 m.kind, .int .i64 m.frm, .int .i64 m.dest, .int .i64 m.term, .int .i64 m.index, .int .i64 m.logTerm, .int .i64 m.commit, .slice ia IL ic, .bool m.yes] 40))
  have hILb : (IL : Int) ≤ 4611686018427387904 := by have := unhide hIL; omega
  have HILe := hide hIL
  clear hk hit hbig
  go_enter Try.func43, Try.ntmps43
  go_upto_region 1 with fail
  generalize w.alloc (.cells #[.int .i64 m.kind, .int .i64 m.frm, .int .i64 m.dest, .int .i64 m.term, .int .i64 m.index, .int .i64 m.logTerm, .int .i64 m.commit, .slice ia IL ic, .bool m.yes] 40) = w1 at HX HBn ⊢
  have HK1 := hide ((unhide HK).below (unhide HBn))
  generalize hbx : w.heap.size = bx at HX ⊢
  obtain ⟨la, LL, lc, va, VL, vc, na, NL, nc, ma, ML, mc, sa, SL, sc, HE, hLL, hVL, hNL, hML, hSL, ⟨r1, r2, r3, r4⟩, ⟨c0, c1, c2, c3, c4, c5, c6, c7, c8, c9, c10, c11⟩, ⟨f0, f1, f2, f3, f4, f5, f6, f7, f8, f9, f10, f11⟩⟩ := (unhide HK1).tell
  obtain ⟨g0, g1, g2, g3, g4, g5, g6, g7, g8⟩ := (show GX w1 bx _ _ _ _ _ _ _ _ _ from unhide HX).tell
  have hp := (unhide HK1).lo
  have hbl := (unhide HX).low
  have CI := hide ((Rf.inOrd_more m.items m.logTerm m.term) ▸ inOrder_any m.items (.slice ia IL ic) (max 1 m.logTerm) m.term w1.drew (TV.keep (kept (unhide HBn).drew) (unhide HIT)))
  have RETF : Hid (¬ heedB x m → ∀ n, PH x m w (.returned (.bool false)) (w1.drewN n)) := hide (fun q n => ⟨false, rfl, by simp [q], below_drewN (unhide HBn) n⟩)
  have r1 : m.dest = x.id := unhide QR1
  have d1 : (m.dest == x.id) = true := by simpa using r1
  have H1 := hide r1
  clear r1
  have r2 : Rf.inB m.frm 1 x.n := unhide QR2
  have d2 := decide_eq_true r2
  have H2 := hide r2
  clear r2
  have r3 : ¬ (m.frm ≠ x.id) := unhide QNR
  have d3 : (m.frm != x.id) = false := by simpa using r3
  have FA := unhide RETF (fun q => r3 q.2.2.1)
  have FB := hide FA
  clear r3 FA
  simp only [List.append_eq, List.cons_append, List.nil_append]
  go_quiet ((go_at_call 56; exact Calls.quiet_of_same (within_any _ _ _ _)))
  go_wp2
  go_ret
  exact unhide FB _

end Go.Proofs.Ytneepoaimbnneaa.RW

namespace Go.Proofs.Ytneepoaimbnneaa.RW
open Go.RowKit

set_option maxHeartbeats 8000000 in
set_option maxRecDepth 100000 in
theorem heeds_w4 (B p : Nat) (x : Rf.Node) (o : Own) (m : Rf.Msg) (g : Array Value) (w : World) (hk : WK B w p x [] o) (hg : Gv w g m) (hbig : m.items.length ≤ 4611686018427387904) (R1 : m.dest = x.id) (R2 : Rf.inB m.frm 1 x.n) (R3 : m.frm ≠ x.id) (NR : ¬ (Rf.inB m.term 1 1000000)) :
    Calls Try.prog 43 #[.pointer (some ⟨p, 0, none⟩), .agg g] w (PH x m w) := by
  have QR1 := hide R1
  have QR2 := hide R2
  have QR3 := hide R3
  have QNR := hide NR
  clear R1 R2 R3 NR
  obtain ⟨iv, rfl, hit⟩ := hg
  obtain ⟨ia, IL, ic, rfl, hIL, hic, _⟩ := SC.shp hit
  have HK := hide hk
  have HIT := hide hit
  have HX := hide (BK.new w 40 #[.int .i64 m.kind, .int .i64 m.frm, .int .i64 m.dest, .int .i64 m.term, .int .i64 m.index, .int .i64 m.logTerm, .int .i64 m.commit, .slice ia IL ic, .bool m.yes])
  have HBn := hide (below_new w (.cells #[.int .i64 m.kind, .int .i64 m.frm, .int .i64 m.dest, .int .i64 m.term, .int .i64 m.index, .int .i64 m.logTerm, .int .i64 m.commit, .slice ia IL ic, .bool m.yes] 40))
  have hILb : (IL : Int) ≤ 4611686018427387904 := by have := unhide hIL; omega
  have HILe := hide hIL
  clear hk hit hbig
  go_enter Try.func43, Try.ntmps43
  go_upto_region 1 with fail
  generalize w.alloc (.cells #[.int .i64 m.kind, .int .i64 m.frm, .int .i64 m.dest, .int .i64 m.term, .int .i64 m.index, .int .i64 m.logTerm, .int .i64 m.commit, .slice ia IL ic, .bool m.yes] 40) = w1 at HX HBn ⊢
  have HK1 := hide ((unhide HK).below (unhide HBn))
  generalize hbx : w.heap.size = bx at HX ⊢
  obtain ⟨la, LL, lc, va, VL, vc, na, NL, nc, ma, ML, mc, sa, SL, sc, HE, hLL, hVL, hNL, hML, hSL, ⟨r1, r2, r3, r4⟩, ⟨c0, c1, c2, c3, c4, c5, c6, c7, c8, c9, c10, c11⟩, ⟨f0, f1, f2, f3, f4, f5, f6, f7, f8, f9, f10, f11⟩⟩ := (unhide HK1).tell
  obtain ⟨g0, g1, g2, g3, g4, g5, g6, g7, g8⟩ := (show GX w1 bx _ _ _ _ _ _ _ _ _ from unhide HX).tell
  have hp := (unhide HK1).lo
  have hbl := (unhide HX).low
  have CI := hide ((Rf.inOrd_more m.items m.logTerm m.term) ▸ inOrder_any m.items (.slice ia IL ic) (max 1 m.logTerm) m.term w1.drew (TV.keep (kept (unhide HBn).drew) (unhide HIT)))
  have RETF : Hid (¬ heedB x m → ∀ n, PH x m w (.returned (.bool false)) (w1.drewN n)) := hide (fun q n => ⟨false, rfl, by simp [q], below_drewN (unhide HBn) n⟩)
  have r1 : m.dest = x.id := unhide QR1
  have d1 : (m.dest == x.id) = true := by simpa using r1
  have H1 := hide r1
  clear r1
  have r2 : Rf.inB m.frm 1 x.n := unhide QR2
  have d2 := decide_eq_true r2
  have H2 := hide r2
  clear r2
  have r3 : m.frm ≠ x.id := unhide QR3
  have d3 : (m.frm != x.id) = true := by simpa using r3
  have H3 := hide r3
  clear r3
  have r4 : ¬ (Rf.inB m.term 1 1000000) := unhide QNR
  have d4 := decide_eq_false r4
  have FA := unhide RETF (fun q => r4 q.2.2.2.1)
  have FB := hide FA
  clear r4 FA
  simp only [List.append_eq, List.cons_append, List.nil_append]
  go_quiet ((go_at_call 56; exact Calls.quiet_of_same (within_any _ _ _ _)))
  go_wp2
  go_ret
  exact unhide FB _

end Go.Proofs.Ytneepoaimbnneaa.RW

namespace Go.Proofs.Ytneepoaimbnneaa.RW
open Go.RowKit

set_option maxHeartbeats 8000000 in
set_option maxRecDepth 100000 in
theorem heeds_w5 (B p : Nat) (x : Rf.Node) (o : Own) (m : Rf.Msg) (g : Array Value) (w : World) (hk : WK B w p x [] o) (hg : Gv w g m) (hbig : m.items.length ≤ 4611686018427387904) (R1 : m.dest = x.id) (R2 : Rf.inB m.frm 1 x.n) (R3 : m.frm ≠ x.id) (R4 : Rf.inB m.term 1 1000000) (NR : ¬ (Rf.inB m.index 0 60)) :
    Calls Try.prog 43 #[.pointer (some ⟨p, 0, none⟩), .agg g] w (PH x m w) := by
  have QR1 := hide R1
  have QR2 := hide R2
  have QR3 := hide R3
  have QR4 := hide R4
  have QNR := hide NR
  clear R1 R2 R3 R4 NR
  obtain ⟨iv, rfl, hit⟩ := hg
  obtain ⟨ia, IL, ic, rfl, hIL, hic, _⟩ := SC.shp hit
  have HK := hide hk
  have HIT := hide hit
  have HX := hide (BK.new w 40 #[.int .i64 m.kind, .int .i64 m.frm, .int .i64 m.dest, .int .i64 m.term, .int .i64 m.index, .int .i64 m.logTerm, .int .i64 m.commit, .slice ia IL ic, .bool m.yes])
  have HBn := hide (below_new w (.cells #[.int .i64 m.kind, .int .i64 m.frm, .int .i64 m.dest, .int .i64 m.term, .int .i64 m.index, .int .i64 m.logTerm, .int .i64 m.commit, .slice ia IL ic, .bool m.yes] 40))
  have hILb : (IL : Int) ≤ 4611686018427387904 := by have := unhide hIL; omega
  have HILe := hide hIL
  clear hk hit hbig
  go_enter Try.func43, Try.ntmps43
  go_upto_region 1 with fail
  generalize w.alloc (.cells #[.int .i64 m.kind, .int .i64 m.frm, .int .i64 m.dest, .int .i64 m.term, .int .i64 m.index, .int .i64 m.logTerm, .int .i64 m.commit, .slice ia IL ic, .bool m.yes] 40) = w1 at HX HBn ⊢
  have HK1 := hide ((unhide HK).below (unhide HBn))
  generalize hbx : w.heap.size = bx at HX ⊢
  obtain ⟨la, LL, lc, va, VL, vc, na, NL, nc, ma, ML, mc, sa, SL, sc, HE, hLL, hVL, hNL, hML, hSL, ⟨r1, r2, r3, r4⟩, ⟨c0, c1, c2, c3, c4, c5, c6, c7, c8, c9, c10, c11⟩, ⟨f0, f1, f2, f3, f4, f5, f6, f7, f8, f9, f10, f11⟩⟩ := (unhide HK1).tell
  obtain ⟨g0, g1, g2, g3, g4, g5, g6, g7, g8⟩ := (show GX w1 bx _ _ _ _ _ _ _ _ _ from unhide HX).tell
  have hp := (unhide HK1).lo
  have hbl := (unhide HX).low
  have CI := hide ((Rf.inOrd_more m.items m.logTerm m.term) ▸ inOrder_any m.items (.slice ia IL ic) (max 1 m.logTerm) m.term w1.drew (TV.keep (kept (unhide HBn).drew) (unhide HIT)))
  have RETF : Hid (¬ heedB x m → ∀ n, PH x m w (.returned (.bool false)) (w1.drewN n)) := hide (fun q n => ⟨false, rfl, by simp [q], below_drewN (unhide HBn) n⟩)
  have r1 : m.dest = x.id := unhide QR1
  have d1 : (m.dest == x.id) = true := by simpa using r1
  have H1 := hide r1
  clear r1
  have r2 : Rf.inB m.frm 1 x.n := unhide QR2
  have d2 := decide_eq_true r2
  have H2 := hide r2
  clear r2
  have r3 : m.frm ≠ x.id := unhide QR3
  have d3 : (m.frm != x.id) = true := by simpa using r3
  have H3 := hide r3
  clear r3
  have r4 : Rf.inB m.term 1 1000000 := unhide QR4
  have d4 := decide_eq_true r4
  have H4 := hide r4
  clear r4
  have r5 : ¬ (Rf.inB m.index 0 60) := unhide QNR
  have d5 := decide_eq_false r5
  have FA := unhide RETF (fun q => r5 q.2.2.2.2.1)
  have FB := hide FA
  clear r5 FA
  simp only [List.append_eq, List.cons_append, List.nil_append]
  go_quiet ((go_at_call 56; exact Calls.quiet_of_same (within_any _ _ _ _)))
  go_wp2
  go_ret
  exact unhide FB _

end Go.Proofs.Ytneepoaimbnneaa.RW

namespace Go.Proofs.Ytneepoaimbnneaa.RW
open Go.RowKit

set_option maxHeartbeats 8000000 in
set_option maxRecDepth 100000 in
theorem heeds_w6 (B p : Nat) (x : Rf.Node) (o : Own) (m : Rf.Msg) (g : Array Value) (w : World) (hk : WK B w p x [] o) (hg : Gv w g m) (hbig : m.items.length ≤ 4611686018427387904) (R1 : m.dest = x.id) (R2 : Rf.inB m.frm 1 x.n) (R3 : m.frm ≠ x.id) (R4 : Rf.inB m.term 1 1000000) (R5 : Rf.inB m.index 0 60) (NR : ¬ (0 ≤ m.commit)) :
    Calls Try.prog 43 #[.pointer (some ⟨p, 0, none⟩), .agg g] w (PH x m w) := by
  have QR1 := hide R1
  have QR2 := hide R2
  have QR3 := hide R3
  have QR4 := hide R4
  have QR5 := hide R5
  have QNR := hide NR
  clear R1 R2 R3 R4 R5 NR
  obtain ⟨iv, rfl, hit⟩ := hg
  obtain ⟨ia, IL, ic, rfl, hIL, hic, _⟩ := SC.shp hit
  have HK := hide hk
  have HIT := hide hit
  have HX := hide (BK.new w 40 #[.int .i64 m.kind, .int .i64 m.frm, .int .i64 m.dest, .int .i64 m.term, .int .i64 m.index, .int .i64 m.logTerm, .int .i64 m.commit, .slice ia IL ic, .bool m.yes])
  have HBn := hide (below_new w (.cells #[.int .i64 m.kind, .int .i64 m.frm, .int .i64 m.dest, .int .i64 m.term, .int .i64 m.index, .int .i64 m.logTerm, .int .i64 m.commit, .slice ia IL ic, .bool m.yes] 40))
  have hILb : (IL : Int) ≤ 4611686018427387904 := by have := unhide hIL; omega
  have HILe := hide hIL
  clear hk hit hbig
  go_enter Try.func43, Try.ntmps43
  go_upto_region 1 with fail
  generalize w.alloc (.cells #[.int .i64 m.kind, .int .i64 m.frm, .int .i64 m.dest, .int .i64 m.term, .int .i64 m.index, .int .i64 m.logTerm, .int .i64 m.commit, .slice ia IL ic, .bool m.yes] 40) = w1 at HX HBn ⊢
  have HK1 := hide ((unhide HK).below (unhide HBn))
  generalize hbx : w.heap.size = bx at HX ⊢
  obtain ⟨la, LL, lc, va, VL, vc, na, NL, nc, ma, ML, mc, sa, SL, sc, HE, hLL, hVL, hNL, hML, hSL, ⟨r1, r2, r3, r4⟩, ⟨c0, c1, c2, c3, c4, c5, c6, c7, c8, c9, c10, c11⟩, ⟨f0, f1, f2, f3, f4, f5, f6, f7, f8, f9, f10, f11⟩⟩ := (unhide HK1).tell
  obtain ⟨g0, g1, g2, g3, g4, g5, g6, g7, g8⟩ := (show GX w1 bx _ _ _ _ _ _ _ _ _ from unhide HX).tell
  have hp := (unhide HK1).lo
  have hbl := (unhide HX).low
  have CI := hide ((Rf.inOrd_more m.items m.logTerm m.term) ▸ inOrder_any m.items (.slice ia IL ic) (max 1 m.logTerm) m.term w1.drew (TV.keep (kept (unhide HBn).drew) (unhide HIT)))
  have RETF : Hid (¬ heedB x m → ∀ n, PH x m w (.returned (.bool false)) (w1.drewN n)) := hide (fun q n => ⟨false, rfl, by simp [q], below_drewN (unhide HBn) n⟩)
  have r1 : m.dest = x.id := unhide QR1
  have d1 : (m.dest == x.id) = true := by simpa using r1
  have H1 := hide r1
  clear r1
  have r2 : Rf.inB m.frm 1 x.n := unhide QR2
  have d2 := decide_eq_true r2
  have H2 := hide r2
  clear r2
  have r3 : m.frm ≠ x.id := unhide QR3
  have d3 : (m.frm != x.id) = true := by simpa using r3
  have H3 := hide r3
  clear r3
  have r4 : Rf.inB m.term 1 1000000 := unhide QR4
  have d4 := decide_eq_true r4
  have H4 := hide r4
  clear r4
  have r5 : Rf.inB m.index 0 60 := unhide QR5
  have d5 := decide_eq_true r5
  have H5 := hide r5
  clear r5
  have r6 : ¬ (0 ≤ m.commit) := unhide QNR
  have d6 : decide (0 ≤ m.commit) = false := decide_eq_false r6
  have FA := unhide RETF (fun q => r6 q.2.2.2.2.2.1)
  have FB := hide FA
  clear r6 FA
  simp only [List.append_eq, List.cons_append, List.nil_append]
  go_quiet ((go_at_call 56; exact Calls.quiet_of_same (within_any _ _ _ _)))
  go_wp2
  go_ret
  exact unhide FB _

end Go.Proofs.Ytneepoaimbnneaa.RW

namespace Go.Proofs.Ytneepoaimbnneaa.RW
open Go.RowKit

set_option maxHeartbeats 8000000 in
set_option maxRecDepth 100000 in
theorem heeds_w7 (B p : Nat) (x : Rf.Node) (o : Own) (m : Rf.Msg) (g : Array Value) (w : World) (hk : WK B w p x [] o) (hg : Gv w g m) (hbig : m.items.length ≤ 4611686018427387904) (R1 : m.dest = x.id) (R2 : Rf.inB m.frm 1 x.n) (R3 : m.frm ≠ x.id) (R4 : Rf.inB m.term 1 1000000) (R5 : Rf.inB m.index 0 60) (R6 : 0 ≤ m.commit) (NR : ¬ (Rf.inB m.logTerm 0 m.term)) :
    Calls Try.prog 43 #[.pointer (some ⟨p, 0, none⟩), .agg g] w (PH x m w) := by
  have QR1 := hide R1
  have QR2 := hide R2
  have QR3 := hide R3
  have QR4 := hide R4
  have QR5 := hide R5
  have QR6 := hide R6
  have QNR := hide NR
  clear R1 R2 R3 R4 R5 R6 NR
  obtain ⟨iv, rfl, hit⟩ := hg
  obtain ⟨ia, IL, ic, rfl, hIL, hic, _⟩ := SC.shp hit
  have HK := hide hk
  have HIT := hide hit
  have HX := hide (BK.new w 40 #[.int .i64 m.kind, .int .i64 m.frm, .int .i64 m.dest, .int .i64 m.term, .int .i64 m.index, .int .i64 m.logTerm, .int .i64 m.commit, .slice ia IL ic, .bool m.yes])
  have HBn := hide (below_new w (.cells #[.int .i64 m.kind, .int .i64 m.frm, .int .i64 m.dest, .int .i64 m.term, .int .i64 m.index, .int .i64 m.logTerm, .int .i64 m.commit, .slice ia IL ic, .bool m.yes] 40))
  have hILb : (IL : Int) ≤ 4611686018427387904 := by have := unhide hIL; omega
  have HILe := hide hIL
  clear hk hit hbig
  go_enter Try.func43, Try.ntmps43
  go_upto_region 1 with fail
  generalize w.alloc (.cells #[.int .i64 m.kind, .int .i64 m.frm, .int .i64 m.dest, .int .i64 m.term, .int .i64 m.index, .int .i64 m.logTerm, .int .i64 m.commit, .slice ia IL ic, .bool m.yes] 40) = w1 at HX HBn ⊢
  have HK1 := hide ((unhide HK).below (unhide HBn))
  generalize hbx : w.heap.size = bx at HX ⊢
  obtain ⟨la, LL, lc, va, VL, vc, na, NL, nc, ma, ML, mc, sa, SL, sc, HE, hLL, hVL, hNL, hML, hSL, ⟨r1, r2, r3, r4⟩, ⟨c0, c1, c2, c3, c4, c5, c6, c7, c8, c9, c10, c11⟩, ⟨f0, f1, f2, f3, f4, f5, f6, f7, f8, f9, f10, f11⟩⟩ := (unhide HK1).tell
  obtain ⟨g0, g1, g2, g3, g4, g5, g6, g7, g8⟩ := (show GX w1 bx _ _ _ _ _ _ _ _ _ from unhide HX).tell
  have hp := (unhide HK1).lo
  have hbl := (unhide HX).low
  have CI := hide ((Rf.inOrd_more m.items m.logTerm m.term) ▸ inOrder_any m.items (.slice ia IL ic) (max 1 m.logTerm) m.term w1.drew (TV.keep (kept (unhide HBn).drew) (unhide HIT)))
  have RETF : Hid (¬ heedB x m → ∀ n, PH x m w (.returned (.bool false)) (w1.drewN n)) := hide (fun q n => ⟨false, rfl, by simp [q], below_drewN (unhide HBn) n⟩)
  have r1 : m.dest = x.id := unhide QR1
  have d1 : (m.dest == x.id) = true := by simpa using r1
  have H1 := hide r1
  clear r1
  have r2 : Rf.inB m.frm 1 x.n := unhide QR2
  have d2 := decide_eq_true r2
  have H2 := hide r2
  clear r2
  have r3 : m.frm ≠ x.id := unhide QR3
  have d3 : (m.frm != x.id) = true := by simpa using r3
  have H3 := hide r3
  clear r3
  have r4 : Rf.inB m.term 1 1000000 := unhide QR4
  have d4 := decide_eq_true r4
  have H4 := hide r4
  clear r4
  have r5 : Rf.inB m.index 0 60 := unhide QR5
  have d5 := decide_eq_true r5
  have H5 := hide r5
  clear r5
  have r6 : 0 ≤ m.commit := unhide QR6
  have d6 : decide (0 ≤ m.commit) = true := decide_eq_true r6
  have H6 := hide r6
  clear r6
  have r7 : ¬ (Rf.inB m.logTerm 0 m.term) := unhide QNR
  have d7 := decide_eq_false r7
  have FA := unhide RETF (fun q => r7 q.2.2.2.2.2.2.1)
  have FB := hide FA
  clear r7 FA
  simp only [List.append_eq, List.cons_append, List.nil_append]
  go_quiet ((go_at_call 56; exact Calls.quiet_of_same (within_any _ _ _ _)))
  go_wp2
  go_ret
  exact unhide FB _

end Go.Proofs.Ytneepoaimbnneaa.RW

namespace Go.Proofs.Ytneepoaimbnneaa.RW
open Go.RowKit

set_option maxHeartbeats 8000000 in
set_option maxRecDepth 100000 in
theorem heeds_w8 (B p : Nat) (x : Rf.Node) (o : Own) (m : Rf.Msg) (g : Array Value) (w : World) (hk : WK B w p x [] o) (hg : Gv w g m) (hbig : m.items.length ≤ 4611686018427387904) (R1 : m.dest = x.id) (R2 : Rf.inB m.frm 1 x.n) (R3 : m.frm ≠ x.id) (R4 : Rf.inB m.term 1 1000000) (R5 : Rf.inB m.index 0 60) (R6 : 0 ≤ m.commit) (R7 : Rf.inB m.logTerm 0 m.term) (NR : ¬ (m.index + (m.items.length : Int) ≤ 60)) :
    Calls Try.prog 43 #[.pointer (some ⟨p, 0, none⟩), .agg g] w (PH x m w) := by
  have QR1 := hide R1
  have QR2 := hide R2
  have QR3 := hide R3
  have QR4 := hide R4
  have QR5 := hide R5
  have QR6 := hide R6
  have QR7 := hide R7
  have QNR := hide NR
  clear R1 R2 R3 R4 R5 R6 R7 NR
  obtain ⟨iv, rfl, hit⟩ := hg
  obtain ⟨ia, IL, ic, rfl, hIL, hic, _⟩ := SC.shp hit
  have HK := hide hk
  have HIT := hide hit
  have HX := hide (BK.new w 40 #[.int .i64 m.kind, .int .i64 m.frm, .int .i64 m.dest, .int .i64 m.term, .int .i64 m.index, .int .i64 m.logTerm, .int .i64 m.commit, .slice ia IL ic, .bool m.yes])
  have HBn := hide (below_new w (.cells #[.int .i64 m.kind, .int .i64 m.frm, .int .i64 m.dest, .int .i64 m.term, .int .i64 m.index, .int .i64 m.logTerm, .int .i64 m.commit, .slice ia IL ic, .bool m.yes] 40))
  have hILb : (IL : Int) ≤ 4611686018427387904 := by have := unhide hIL; omega
  have HILe := hide hIL
  clear hk hit hbig
  go_enter Try.func43, Try.ntmps43
  go_upto_region 1 with fail
  generalize w.alloc (.cells #[.int .i64 m.kind, .int .i64 m.frm, .int .i64 m.dest, .int .i64 m.term, .int .i64 m.index, .int .i64 m.logTerm, .int .i64 m.commit, .slice ia IL ic, .bool m.yes] 40) = w1 at HX HBn ⊢
  have HK1 := hide ((unhide HK).below (unhide HBn))
  generalize hbx : w.heap.size = bx at HX ⊢
  obtain ⟨la, LL, lc, va, VL, vc, na, NL, nc, ma, ML, mc, sa, SL, sc, HE, hLL, hVL, hNL, hML, hSL, ⟨r1, r2, r3, r4⟩, ⟨c0, c1, c2, c3, c4, c5, c6, c7, c8, c9, c10, c11⟩, ⟨f0, f1, f2, f3, f4, f5, f6, f7, f8, f9, f10, f11⟩⟩ := (unhide HK1).tell
  obtain ⟨g0, g1, g2, g3, g4, g5, g6, g7, g8⟩ := (show GX w1 bx _ _ _ _ _ _ _ _ _ from unhide HX).tell
  have hp := (unhide HK1).lo
  have hbl := (unhide HX).low
  have CI := hide ((Rf.inOrd_more m.items m.logTerm m.term) ▸ inOrder_any m.items (.slice ia IL ic) (max 1 m.logTerm) m.term w1.drew (TV.keep (kept (unhide HBn).drew) (unhide HIT)))
  have RETF : Hid (¬ heedB x m → ∀ n, PH x m w (.returned (.bool false)) (w1.drewN n)) := hide (fun q n => ⟨false, rfl, by simp [q], below_drewN (unhide HBn) n⟩)
  have r1 : m.dest = x.id := unhide QR1
  have d1 : (m.dest == x.id) = true := by simpa using r1
  have H1 := hide r1
  clear r1
  have r2 : Rf.inB m.frm 1 x.n := unhide QR2
  have d2 := decide_eq_true r2
  have H2 := hide r2
  clear r2
  have r3 : m.frm ≠ x.id := unhide QR3
  have d3 : (m.frm != x.id) = true := by simpa using r3
  have H3 := hide r3
  clear r3
  have r4 : Rf.inB m.term 1 1000000 := unhide QR4
  have d4 := decide_eq_true r4
  have H4 := hide r4
  clear r4
  have r5 : Rf.inB m.index 0 60 := unhide QR5
  have d5 := decide_eq_true r5
  have H5 := hide r5
  clear r5
  have r6 : 0 ≤ m.commit := unhide QR6
  have d6 : decide (0 ≤ m.commit) = true := decide_eq_true r6
  have H6 := hide r6
  clear r6
  have r7 : Rf.inB m.logTerm 0 m.term := unhide QR7
  have d7 := decide_eq_true r7
  have H7 := hide r7
  clear r7
  have r8 : ¬ (m.index + (IL : Int) ≤ 60) := fun q => (unhide QNR) (by rw [← unhide HILe]; exact q)
  have ew : IntKind.i64.wrap (m.index + (IL : Int)) = m.index + (IL : Int) := by have q := unhide H5; unfold Rf.inB at q; exact wrap_i64 (by omega) (by omega)
  have d8 : decide (m.index + (IL : Int) ≤ 60) = false := decide_eq_false r8
  have FA := unhide RETF (fun q => r8 (by rw [unhide HILe]; exact q.2.2.2.2.2.2.2.1))
  have FB := hide FA
  clear r8 FA
  simp only [List.append_eq, List.cons_append, List.nil_append]
  go_quiet ((go_at_call 56; exact Calls.quiet_of_same (within_any _ _ _ _)))
  go_wp2
  go_ret
  exact unhide FB _

end Go.Proofs.Ytneepoaimbnneaa.RW

namespace Go.Proofs.Ytneepoaimbnneaa.RW
open Go.RowKit

set_option maxHeartbeats 8000000 in
set_option maxRecDepth 100000 in
theorem heeds_w9 (B p : Nat) (x : Rf.Node) (o : Own) (m : Rf.Msg) (g : Array Value) (w : World) (hk : WK B w p x [] o) (hg : Gv w g m) (hbig : m.items.length ≤ 4611686018427387904) (R1 : m.dest = x.id) (R2 : Rf.inB m.frm 1 x.n) (R3 : m.frm ≠ x.id) (R4 : Rf.inB m.term 1 1000000) (R5 : Rf.inB m.index 0 60) (R6 : 0 ≤ m.commit) (R7 : Rf.inB m.logTerm 0 m.term) (R8 : m.index + (m.items.length : Int) ≤ 60) :
    Calls Try.prog 43 #[.pointer (some ⟨p, 0, none⟩), .agg g] w (PH x m w) := by
  have QR1 := hide R1
  have QR2 := hide R2
  have QR3 := hide R3
  have QR4 := hide R4
  have QR5 := hide R5
  have QR6 := hide R6
  have QR7 := hide R7
  have QR8 := hide R8
  clear R1 R2 R3 R4 R5 R6 R7 R8
  obtain ⟨iv, rfl, hit⟩ := hg
  obtain ⟨ia, IL, ic, rfl, hIL, hic, _⟩ := SC.shp hit
  have HK := hide hk
  have HIT := hide hit
  have HX := hide (BK.new w 40 #[.int .i64 m.kind, .int .i64 m.frm, .int .i64 m.dest, .int .i64 m.term, .int .i64 m.index, .int .i64 m.logTerm, .int .i64 m.commit, .slice ia IL ic, .bool m.yes])
  have HBn := hide (below_new w (.cells #[.int .i64 m.kind, .int .i64 m.frm, .int .i64 m.dest, .int .i64 m.term, .int .i64 m.index, .int .i64 m.logTerm, .int .i64 m.commit, .slice ia IL ic, .bool m.yes] 40))
  have hILb : (IL : Int) ≤ 4611686018427387904 := by have := unhide hIL; omega
  have HILe := hide hIL
  clear hk hit hbig
  go_enter Try.func43, Try.ntmps43
  go_upto_region 1 with fail
  generalize w.alloc (.cells #[.int .i64 m.kind, .int .i64 m.frm, .int .i64 m.dest, .int .i64 m.term, .int .i64 m.index, .int .i64 m.logTerm, .int .i64 m.commit, .slice ia IL ic, .bool m.yes] 40) = w1 at HX HBn ⊢
  have HK1 := hide ((unhide HK).below (unhide HBn))
  generalize hbx : w.heap.size = bx at HX ⊢
  obtain ⟨la, LL, lc, va, VL, vc, na, NL, nc, ma, ML, mc, sa, SL, sc, HE, hLL, hVL, hNL, hML, hSL, ⟨r1, r2, r3, r4⟩, ⟨c0, c1, c2, c3, c4, c5, c6, c7, c8, c9, c10, c11⟩, ⟨f0, f1, f2, f3, f4, f5, f6, f7, f8, f9, f10, f11⟩⟩ := (unhide HK1).tell
  obtain ⟨g0, g1, g2, g3, g4, g5, g6, g7, g8⟩ := (show GX w1 bx _ _ _ _ _ _ _ _ _ from unhide HX).tell
  have hp := (unhide HK1).lo
  have hbl := (unhide HX).low
  have CI := hide ((Rf.inOrd_more m.items m.logTerm m.term) ▸ inOrder_any m.items (.slice ia IL ic) (max 1 m.logTerm) m.term w1.drew (TV.keep (kept (unhide HBn).drew) (unhide HIT)))
  have RETF : Hid (¬ heedB x m → ∀ n, PH x m w (.returned (.bool false)) (w1.drewN n)) := hide (fun q n => ⟨false, rfl, by simp [q], below_drewN (unhide HBn) n⟩)
  have r1 : m.dest = x.id := unhide QR1
  have d1 : (m.dest == x.id) = true := by simpa using r1
  have H1 := hide r1
  clear r1
  have r2 : Rf.inB m.frm 1 x.n := unhide QR2
  have d2 := decide_eq_true r2
  have H2 := hide r2
  clear r2
  have r3 : m.frm ≠ x.id := unhide QR3
  have d3 : (m.frm != x.id) = true := by simpa using r3
  have H3 := hide r3
  clear r3
  have r4 : Rf.inB m.term 1 1000000 := unhide QR4
  have d4 := decide_eq_true r4
  have H4 := hide r4
  clear r4
  have r5 : Rf.inB m.index 0 60 := unhide QR5
  have d5 := decide_eq_true r5
  have H5 := hide r5
  clear r5
  have r6 : 0 ≤ m.commit := unhide QR6
  have d6 : decide (0 ≤ m.commit) = true := decide_eq_true r6
  have H6 := hide r6
  clear r6
  have r7 : Rf.inB m.logTerm 0 m.term := unhide QR7
  have d7 := decide_eq_true r7
  have H7 := hide r7
  clear r7
  have r8 : m.index + (IL : Int) ≤ 60 := by rw [unhide HILe]; exact unhide QR8
  have ew : IntKind.i64.wrap (m.index + (IL : Int)) = m.index + (IL : Int) := by have q := unhide H5; unfold Rf.inB at q; exact wrap_i64 (by omega) (by omega)
  have d8 : decide (m.index + (IL : Int) ≤ 60) = true := decide_eq_true r8
  have H8 := hide r8
  clear r8
  have CI2 : Hid (Calls Try.prog 57 #[.slice ia IL ic, .int .i64 (max 1 m.logTerm), .int .i64 m.term] w1.drew fun e w' => ∃ h : Bool, e = .returned (.bool h) ∧ Hid (PH x m w (.returned (.bool h)) w') ∧ (w'.cell? ⟨p, 0, none⟩ = some (.int .i64 x.id) ∧ w'.cell? ⟨p, 1, none⟩ = some (.int .i64 x.n) ∧ w'.cell? ⟨bx, 1, none⟩ = some (.int .i64 m.frm) ∧ w'.cell? ⟨bx, 2, none⟩ = some (.int .i64 m.dest) ∧ w'.cell? ⟨bx, 3, none⟩ = some (.int .i64 m.term) ∧ w'.cell? ⟨bx, 4, none⟩ = some (.int .i64 m.index) ∧ w'.cell? ⟨bx, 5, none⟩ = some (.int .i64 m.logTerm) ∧ w'.cell? ⟨bx, 6, none⟩ = some (.int .i64 m.commit) ∧ w'.cell? ⟨bx, 7, none⟩ = some (.slice ia IL ic))) := hide (by
    refine (unhide CI).mono ?_
    rintro e w' ⟨rfl, hb⟩
    have hb' : Below w1.heap.size w1 w' := (Below.refl _ w1).drew.trans hb
    have cc : ∀ {b j : Nat} {u : Value}, b < w1.heap.size → w1.cell? ⟨b, j, none⟩ = some u → w'.cell? ⟨b, j, none⟩ = some u := fun {b j u} hl h => (World.cell?_of_block (w := w1) (a := ⟨b, j, none⟩) (hb'.block b hl)).trans h
    refine ⟨_, rfl, hide ⟨_, rfl, ?_, below_via (unhide HBn).drew hb⟩, cc hp c0, cc hp c1, cc hbl g1, cc hbl g2, cc hbl g3, cc hbl g4, cc hbl g5, cc hbl g6, cc hbl g7⟩
    rw [decide_eq_true_eq]
    exact ⟨fun q => ⟨unhide H1, unhide H2, unhide H3, unhide H4, unhide H5, unhide H6, unhide H7, by rw [← unhide HILe]; exact unhide H8, q.1, q.2⟩, fun q => ⟨q.2.2.2.2.2.2.2.2.1, q.2.2.2.2.2.2.2.2.2⟩⟩)
  clear CI RETF
  simp only [List.append_eq, List.cons_append, List.nil_append]
  go_region_held2 (fun w' => w'.cell? ⟨p, 0, none⟩ = some (.int .i64 x.id) ∧ w'.cell? ⟨p, 1, none⟩ = some (.int .i64 x.n) ∧ w'.cell? ⟨bx, 1, none⟩ = some (.int .i64 m.frm) ∧ w'.cell? ⟨bx, 2, none⟩ = some (.int .i64 m.dest) ∧ w'.cell? ⟨bx, 3, none⟩ = some (.int .i64 m.term) ∧ w'.cell? ⟨bx, 4, none⟩ = some (.int .i64 m.index) ∧ w'.cell? ⟨bx, 5, none⟩ = some (.int .i64 m.logTerm) ∧ w'.cell? ⟨bx, 6, none⟩ = some (.int .i64 m.commit) ∧ w'.cell? ⟨bx, 7, none⟩ = some (.slice ia IL ic)) (first | exact ⟨c0, c1, g1, g2, g3, g4, g5, g6, g7⟩ | exact KK)
    (first
      | (go_at_call 56; refine (within_any _ _ _ _).mono ?_; rintro e w' ⟨rfl, rfl⟩)
      | (go_at_call 57; refine (unhide CI2).mono ?_; rintro e w2 ⟨h, rfl, hh, KK⟩))
  all_goals go_wp2
  all_goals go_ret
  all_goals exact unhide hh

end Go.Proofs.Ytneepoaimbnneaa.RW
