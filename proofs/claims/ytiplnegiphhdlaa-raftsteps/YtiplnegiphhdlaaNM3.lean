/- Walks: stand (raft). Written by gen_nm3.py. -/
import Derived.Test.YtiplnegiphhdlaaNM2
namespace Go.Proofs.Ytiplnegiphhdlaa.RW
open Go.RowKit

set_option maxHeartbeats 8000000 in
set_option maxRecDepth 100000 in
theorem stand_any (B p : Nat) (x : Rf.Node) (o : Own) (w : World) (hk : WK B w p x [] o) (hR : Rf.Right x) (hr : x.role ≠ 3) (ht : x.term < 1000000) :
    Calls Try.prog 25 #[.pointer (some ⟨p, 0, none⟩)] w (PW B p o w (Rf.elect (Rf.asks x)).1 ((Rf.others (Rf.asks x)).map (Rf.voteMsg (Rf.asks x)) ++ (Rf.elect (Rf.asks x)).2)) := by
  have RA := hide (Rf.right_asks hR hr (by omega))
  have HR := hide hR
  have HK := hide hk
  have hT : x.term ≤ 1000000 := by omega
  have hT0 : 0 ≤ x.term := hR.term.1
  have HX := hide (BK.new w 42 #[.pointer (some ⟨p, 0, none⟩)])
  have HBn := hide (below_new w (.cells #[.pointer (some ⟨p, 0, none⟩)] 42))
  have HFb : Hid (Free p o w.heap.size) := hide (hk.newFree (Nat.le_refl _))
  clear hR hr hk
  go_enter Try.func25, Try.ntmps25
  go_upto_region 1 with fail
  have hbl : w.heap.size < (w.alloc (.cells #[.pointer (some ⟨p, 0, none⟩)] 42)).heap.size := by simp
  generalize w.alloc (.cells #[.pointer (some ⟨p, 0, none⟩)] 42) = w1 at HX HBn hbl ⊢
  have HK1 := hide ((unhide HK).below (unhide HBn))
  have HF1 := hide (Fr.below (p := p) (o := o) (unhide HBn) (unhide HK).szB)
  generalize hbx : w.heap.size = bx at HX HFb hbl ⊢
  clear hbx
  obtain ⟨la, LL, lc, va, VL, vc, na, NL, nc, ma, ML, mc, sa, SL, sc, HE, hLL, hVL, hNL, hML, hSL, ⟨r1, r2, r3, r4⟩, ⟨c0, c1, c2, c3, c4, c5, c6, c7, c8, c9, c10, c11⟩, ⟨f0, f1, f2, f3, f4, f5, f6, f7, f8, f9, f10, f11⟩⟩ := (unhide HK1).tell
  have bc := (unhide HX).at (j := 0) rfl
  have hp := (unhide HK1).lo
  have hpb : p ≠ bx := fun e => (unhide HFb).1 e.symm
  have ew : IntKind.i64.wrap (x.term + 1) = x.term + 1 := wrap_i64 (by omega) (by omega)
  have S2 := (unhide HK1).cell (x' := { x with term := x.term + 1 }) 2 (.int .i64 (x.term + 1)) ⟨rfl, rfl, rfl, rfl⟩ rfl
  have HF2 := hide ((unhide HF1).trans ((unhide HK1).cellFr 2 (.int .i64 (x.term + 1))))
  have HX2 := hide (((unhide HK1).cellFr 2 (.int .i64 (x.term + 1))).bk (unhide HX) (unhide HFb))
  have HK2 := hide S2
  clear S2
  go_upto_region 2 with fail
  generalize World.setCell w1 ⟨p, 2, none⟩ (.int .i64 (x.term + 1)) = w2 at HK2 HF2 HX2 ⊢
  clear HE hLL hVL hNL hML hSL hp bc HK1 HF1 HX hbl ew c0 c1 c2 c3 c4 c5 c6 c7 c8 c9 c10 c11 f0 f1 f2 f3 f4 f5 f6 f7 f8 f9 f10 f11 r1 r2 r3 r4
  obtain ⟨la, LL, lc, va, VL, vc, na, NL, nc, ma, ML, mc, sa, SL, sc, HE, hLL, hVL, hNL, hML, hSL, ⟨r1, r2, r3, r4⟩, ⟨c0, c1, c2, c3, c4, c5, c6, c7, c8, c9, c10, c11⟩, ⟨f0, f1, f2, f3, f4, f5, f6, f7, f8, f9, f10, f11⟩⟩ := (unhide HK2).tell
  have bc := (unhide HX2).at (j := 0) rfl
  have hbl := (unhide HX2).low
  have hp := (unhide HK2).lo
  have S3 := (unhide HK2).cell (x' := { x with term := x.term + 1, role := 2 }) 6 (.int .i64 2) ⟨rfl, rfl, rfl, rfl⟩ rfl
  have F3 := (unhide HF2).trans ((unhide HK2).cellFr 6 (.int .i64 2))
  have X3 := ((unhide HK2).cellFr 6 (.int .i64 2)).bk (unhide HX2) (unhide HFb)
  have S3' := S3.cell (x' := { x with term := x.term + 1, role := 2, boss := 0 }) 7 (.int .i64 0) ⟨rfl, rfl, rfl, rfl⟩ rfl
  have HF3 := hide (F3.trans (S3.cellFr 7 (.int .i64 0))).drew
  have HX3 : Hid (BK (World.drew (World.setCell (World.setCell w2 ⟨p, 6, none⟩ (.int .i64 2)) ⟨p, 7, none⟩ (.int .i64 0))) bx 42 #[.pointer (some ⟨p, 0, none⟩)]) := hide ((S3.cellFr 7 (.int .i64 0)).bk X3 (unhide HFb))
  have HK3 := hide S3'.drew
  clear S3 F3 X3 S3'
  go_region
  go_upto_region 3 with fail
  generalize World.drew (World.setCell (World.setCell w2 ⟨p, 6, none⟩ (.int .i64 2)) ⟨p, 7, none⟩ (.int .i64 0)) = w3 at HK3 HF3 HX3 ⊢
  clear HE hLL hVL hNL hML hSL hp bc HK2 HF2 HX2 hbl c0 c1 c2 c3 c4 c5 c6 c7 c8 c9 c10 c11 f0 f1 f2 f3 f4 f5 f6 f7 f8 f9 f10 f11 r1 r2 r3 r4
  obtain ⟨la, LL, lc, va, VL, vc, na, NL, nc, ma, ML, mc, sa, SL, sc, HE, hLL, hVL, hNL, hML, hSL, ⟨r1, r2, r3, r4⟩, ⟨c0, c1, c2, c3, c4, c5, c6, c7, c8, c9, c10, c11⟩, ⟨f0, f1, f2, f3, f4, f5, f6, f7, f8, f9, f10, f11⟩⟩ := (unhide HK3).tell
  have bc := (unhide HX3).at (j := 0) rfl
  have hbl := (unhide HX3).low
  have hp := (unhide HK3).lo
  have K4 := (unhide HK3).cell (x' := { x with term := x.term + 1, role := 2, boss := 0, vote := x.id }) 3 (.int .i64 x.id) ⟨rfl, rfl, rfl, rfl⟩ rfl
  have F4 := (unhide HF3).trans ((unhide HK3).cellFr 3 (.int .i64 x.id))
  have X4 := ((unhide HK3).cellFr 3 (.int .i64 x.id)).bk (unhide HX3) (unhide HFb)
  have hs4 : (World.setCell w3 ⟨p, 3, none⟩ (.int .i64 x.id)).heap.size = w3.heap.size := by simp [World.setCell]
  have HW : World.setCell (World.alloc (World.setCell w3 ⟨p, 3, none⟩ (.int .i64 x.id)) (.cells #[.int .i64 x.id] 3)) ⟨p, 8, none⟩ (.slice (some ⟨w3.heap.size, 0, none⟩) 1 1) = World.alloc (World.setCell (World.setCell w3 ⟨p, 3, none⟩ (.int .i64 x.id)) ⟨p, 8, none⟩ (.slice (some ⟨w3.heap.size, 0, none⟩) 1 1)) (.cells #[.int .i64 x.id] 3) := World.setCell_alloc_past _ _ _ _ (by rw [hs4]; exact hp)
  have S4 := K4.setV (v' := .slice (some ⟨w3.heap.size, 0, none⟩) 1 1) (L := [x.id]) (w1 := World.alloc (World.setCell w3 ⟨p, 3, none⟩ (.int .i64 x.id)) (.cells #[.int .i64 x.id] 3)) (World.grownBy_alloc _ _ _) (by
    have := World.ownsRow_lit (base := B) (e := 3) (size := 1) (World.setCell w3 ⟨p, 3, none⟩ (.int .i64 x.id)) #[.int .i64 x.id] 1 (by rw [hs4]; exact (unhide HK3).szB) (by unfold maxLen; omega) rfl
    rw [hs4] at this
    exact this) (.inr fun k hk => by cases hk; rw [hs4]; exact Nat.le_refl _)
  rw [HW] at S4
  have HK5 : Hid (WK B (World.drew (World.alloc (World.setCell (World.setCell w3 ⟨p, 3, none⟩ (.int .i64 x.id)) ⟨p, 8, none⟩ (.slice (some ⟨w3.heap.size, 0, none⟩) 1 1)) (.cells #[.int .i64 x.id] 3))) p (Rf.asks x) [] { o with v := .slice (some ⟨w3.heap.size, 0, none⟩) 1 1 }) := hide S4.1.drew
  have HF5 := hide (F4.trans S4.2).drew
  have HFb5 : Hid (Free p { o with v := .slice (some ⟨w3.heap.size, 0, none⟩) 1 1 } bx) := hide (S4.2.free (by rw [hs4]; exact hbl) (unhide HFb))
  have HX5 : Hid (BK (World.drew (World.alloc (World.setCell (World.setCell w3 ⟨p, 3, none⟩ (.int .i64 x.id)) ⟨p, 8, none⟩ (.slice (some ⟨w3.heap.size, 0, none⟩) 1 1)) (.cells #[.int .i64 x.id] 3))) bx 42 #[.pointer (some ⟨p, 0, none⟩)]) := hide (S4.2.bk X4 (unhide HFb))
  clear S4 K4 F4 X4 HW hs4
  go_region
  go_upto_region 4 with fail
  generalize World.drew (World.alloc (World.setCell (World.setCell w3 ⟨p, 3, none⟩ (.int .i64 x.id)) ⟨p, 8, none⟩ (.slice (some ⟨w3.heap.size, 0, none⟩) 1 1)) (.cells #[.int .i64 x.id] 3)) = w5 at HK5 HF5 HX5 ⊢
  clear HE hLL hVL hNL hML hSL hp bc hbl c0 c1 c2 c3 c4 c5 c6 c7 c8 c9 c10 c11 f0 f1 f2 f3 f4 f5 f6 f7 f8 f9 f10 f11 r1 r2 r3 r4
  have bc := (unhide HX5).at (j := 0) rfl
  have CO := hide (others_ask B p bx (Rf.asks x) [] _ w5 (unhide HK5) (by simp) (unhide RA).n.1 (unhide RA).n.2 (unhide RA).log (unhide HX5) (unhide HFb5))
  go_wp2_with (go_at_call 30; refine (unhide CO).mono ?_; rintro e w6 ⟨rfl, s6, cs6, hK6, hF6⟩; have bc6 := (hF6.bk (unhide HX5) (unhide HFb5)).at (j := 0) rfl)
  rw [List.nil_append] at hK6
  have CL := hide (lead_any B p (Rf.asks x) _ _ w6 hK6 (unhide RA) rfl (by
    rw [List.length_map]
    have := Rf.upto_len (Rf.asks x) (Rf.asks x).n.toNat
    have h5 := (unhide RA).n.2
    have e : Rf.others (Rf.asks x) = Rf.upto (Rf.asks x) (Rf.asks x).n.toNat := rfl
    rw [e]
    omega))
  have HF6 := hide ((unhide HF5).trans hF6)
  clear hK6 hF6 CO
  go_wp2_with (go_at_call 43; refine (unhide CL).mono ?_; rintro e w7 ⟨rfl, o7, hK7, hF7⟩)
  have FIN := hide (And.intro hK7 ((unhide HF6).trans hF7))
  clear hK7 hF7 CL
  go_end0
  exact ⟨rfl, _, (unhide FIN).1, (unhide FIN).2⟩

end Go.Proofs.Ytiplnegiphhdlaa.RW
