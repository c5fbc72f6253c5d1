/- Walks: Batches. -/
import Derived.Test.YtiplnegiphhdlaaME
namespace Go.Proofs.Ytiplnegiphhdlaa.Rf
def uptoM (id : Int) (k : Nat) : List Int := ((List.range k).map (fun i : Nat => (i : Int) + 1)).filter (fun q => q ≠ id)
theorem uptoM_zero (id : Int) : uptoM id 0 = [] := rfl
theorem uptoM_yes {id : Int} {k : Nat} (h : ((k : Int) + 1) ≠ id) : uptoM id (k + 1) = uptoM id k ++ [(k : Int) + 1] := by
  rw [uptoM, List.range_succ, List.map_append, List.filter_append]
  simp [uptoM, h]
theorem uptoM_no {id : Int} {k : Nat} (h : ((k : Int) + 1) = id) : uptoM id (k + 1) = uptoM id k := by
  rw [uptoM, List.range_succ, List.map_append, List.filter_append]
  simp [uptoM, h]
theorem uptoM_len (id : Int) : ∀ k : Nat, (uptoM id k).length ≤ k
  | 0 => by simp [uptoM_zero]
  | k + 1 => by
    have := uptoM_len id k
    by_cases h : ((k : Int) + 1) = id
    · rw [uptoM_no h]; omega
    · rw [uptoM_yes h, List.length_append]; simp; omega
/-- a leader that may send -/
structure Sends (x : Node) : Prop where
  n : inB x.n 1 5
  len : (x.next.length : Int) = x.n
  log : x.log.length ≤ 60
  next : ∀ v ∈ x.next, inB v 1 ((x.log.length : Int) + 1)

end Go.Proofs.Ytiplnegiphhdlaa.Rf

namespace Go.Proofs.Ytiplnegiphhdlaa
open Go.RowKit

theorem cell_nine_new (W : World) (t : TypeId) (a0 a1 a2 a3 a4 a5 a6 a7 a8 : Value) : ∀ j u, [a0, a1, a2, a3, a4, a5, a6, a7, a8][j]? = some u → (W.alloc (.cells #[a0, a1, a2, a3, a4, a5, a6, a7, a8] t)).cell? ((⟨W.heap.size, 0, none⟩ : Addr).add j) = some u := by
  intro j u h
  rw [Addr.add_lit, Nat.zero_add]
  exact (BK.new W t #[a0, a1, a2, a3, a4, a5, a6, a7, a8]).at (by simpa using h)
/-- messages are told -/
def PostM (w : World) (ms : List Rf.Msg) (e : Ending) (w' : World) : Prop := ∃ v, e = .returned v ∧ MV (Fresh w w') w' v ms ∧ Below w.heap.size w w'

end Go.Proofs.Ytiplnegiphhdlaa

namespace Go.Proofs.Ytiplnegiphhdlaa.R15
open Go.RowKit

set_option maxHeartbeats 2000000 in
set_option maxRecDepth 100000 in
theorem batches_any (x : Rf.Node) (v : Array Value) (w : World) (hv : Nv w v x) (hS : Rf.Sends x) : Calls Try.prog 32 #[.agg v] w (PostM w (Rf.batches x)) := by
  have HV := hide hv
  obtain ⟨N, hN⟩ : ∃ N : Nat, x.n = (N : Int) := ⟨x.n.toNat, by have := hS.n.1; omega⟩
  have hN1 : 1 ≤ N := by have := hS.n.1; omega
  have hN5 : N ≤ 5 := by have := hS.n.2; omega
  have hNL : x.next.length = N := by have := hS.len; omega
  have CB := hide (fun (k : Nat) (h1 : 1 ≤ k) (h2 : k ≤ N) wx (hx : Below w.heap.size w wx) => by
    have hlt : k - 1 < x.next.length := by omega
    have hr := hS.next _ (List.getElem_mem hlt)
    have hc := hr.1
    obtain ⟨f, hf⟩ : ∃ f : Nat, x.next[k - 1] = (f : Int) := ⟨x.next[k - 1].toNat, by omega⟩
    exact batch_any x v k f wx (hv.keep (kept hx)) h1 (by omega) (by rw [List.getElem?_eq_getElem hlt, hf]) (by omega) (by have := hr.2; omega) hS.log (by omega))
  have HO : Hid (Rf.batches x = (Rf.uptoM x.id N).map (Rf.batch x)) := hide (by rw [Rf.batches, Rf.others, hN]; rfl)
  rw [unhide HO]
  clear hS
  obtain ⟨lv, vv, nv, mv, rfl, h2, h3, h4, h5⟩ := hv
  obtain ⟨la, LL, lc, rfl, hLL, _, _⟩ := SC.shp h2
  obtain ⟨va, VL, vc, rfl, hVL, _, _⟩ := SC.shp h3
  obtain ⟨na, NL, nc, rfl, hNL', _, _⟩ := SC.shp h4
  obtain ⟨ma, ML, mc, rfl, hML, _, _⟩ := SC.shp h5
  clear h2 h3 h4 h5 hNL HO
  have hN' := hide hN
  rw [hN] at *
  clear hN
  obtain ⟨W0, hW0⟩ : ∃ W0, W0 = w.alloc (.cells #[.int .i64 x.id, .int .i64 (N : Int), .int .i64 x.term, .int .i64 x.vote, .slice la LL lc, .int .i64 x.commit, .int .i64 x.role, .int .i64 x.boss, .slice va VL vc, .slice na NL nc, .slice ma ML mc] 25) := ⟨_, rfl⟩
  have HB0 : Hid (Below w.heap.size w W0) := hide (by rw [hW0]; exact below_new _ _)
  have HX0 : Hid (BK W0 w.heap.size 25 #[.int .i64 x.id, .int .i64 (N : Int), .int .i64 x.term, .int .i64 x.vote, .slice la LL lc, .int .i64 x.commit, .int .i64 x.role, .int .i64 x.boss, .slice va VL vc, .slice na NL nc, .slice ma ML mc]) := hide (by rw [hW0]; exact BK.new w _ _)
  have hS0 : W0.heap.size = w.heap.size + 1 := by rw [hW0]; simp
  obtain ⟨i0, I0, I1, I2, I3⟩ := info_parts info_M
  have I0' := hide I0
  have I1' := hide I1
  have I2' := hide I2
  have I3' := hide I3
  clear I0 I1 I2 I3
  go_enter Try.func32, Try.ntmps32
  go_wp2_with fail
  rw [← hW0]
  clear hW0
  go_loopw [3, 4] (fun o i wr => ∃ p : Nat, i = .int .i64 (p : Int) ∧ 1 ≤ p ∧ p ≤ N + 1 ∧ Hid (MO (w.heap.size + 1) wr o ((Rf.uptoM x.id (p - 1)).map (Rf.batch x))) ∧ Hid (BK wr w.heap.size 25 #[.int .i64 x.id, .int .i64 (N : Int), .int .i64 x.term, .int .i64 x.vote, .slice la LL lc, .int .i64 x.commit, .int .i64 x.role, .int .i64 x.boss, .slice va VL vc, .slice na NL nc, .slice ma ML mc]) ∧ Hid (Below w.heap.size w wr) ∧ w.heap.size + 1 ≤ wr.heap.size) (fun _ i _ => N + 1 - (intOf i).toNat)
  case atStart => exact ⟨1, rfl, by omega, by omega, hide (by rw [Nat.sub_self, Rf.uptoM_zero]; exact MO.nil _ _), HX0, HB0, by omega⟩
  case round =>
    obtain ⟨p, rfl, p1, p2, HM, HX, HB, sz⟩ := hrel
    clear HX0 HB0 hS0
    obtain ⟨c0, c1, c2, c3, c4, c5, c6, c7, c8, c9, c10⟩ := (show NX wr w.heap.size _ _ _ _ _ _ _ _ _ _ _ from unhide HX).tell
    by_cases hlt : p ≤ N
    · have hi1 : (p : Int) ≤ (N : Int) := by omega
      have ep : Hid (((p - 1 : Nat) : Int) + 1 = (p : Int)) := hide (by omega)
      by_cases hid : (p : Int) = x.id
      · have HU : Hid (Rf.uptoM x.id (p + 1 - 1) = Rf.uptoM x.id (p - 1)) := hide (by
          have := Rf.uptoM_no (id := x.id) (k := p - 1) (by rw [unhide ep]; exact hid)
          rwa [show p - 1 + 1 = p + 1 - 1 by omega] at this)
        have hneq : ((p : Int) = x.id) = True := eq_true hid
        have hneq2 : ((p : Int) != x.id) = false := by simp [hid]
        have hneq3 : decide ((p : Int) = x.id) = true := decide_eq_true hid
        clear hid
        go_wp2
        go_roundw
        case rel => exact ⟨p + 1, by go_num, by omega, by omega, by rw [unhide HU]; exact HM, HX, HB, sz⟩
        case measure => simp [intOf]; omega
      · have HU : Hid (Rf.uptoM x.id (p + 1 - 1) = Rf.uptoM x.id (p - 1) ++ [(p : Int)]) := hide (by
          have := Rf.uptoM_yes (id := x.id) (k := p - 1) (by rw [unhide ep]; exact hid)
          rwa [show p - 1 + 1 = p + 1 - 1 by omega, unhide ep] at this)
        have C := hide (unhide CB p p1 hlt wr (unhide HB))
        go_wp2_with fail
        with_reducible refine (unhide C).mono ?_
        rintro e w2 ⟨gv, rfl, ⟨iv, rfl, hI⟩, hb2⟩
        obtain ⟨ia, IL, ic, rfl, hIL, _, _⟩ := SC.shp hI
        have HI := hide hI
        have HB2 := hide hb2
        obtain ⟨cs, hOr, hCr⟩ := unhide HM
        have HOw := hide hOr
        have hO := own_below hOr hb2
        have hC := hCr.keep (Q := fun b => w.heap.size + 1 ≤ b ∧ b < w2.heap.size ∧ u3.ownBlock ≠ some b) (fun b hp => ⟨⟨hp.1, Nat.lt_of_lt_of_le hp.2.1 hb2.size, hp.2.2⟩, hb2.block b hp.2.1⟩)
        have HO2 : Hid (∀ o, (w2.alloc o).ownsRow (w.heap.size + 1) 49 9 u3 ((Rf.uptoM x.id (p - 1)).map (Rf.batch x)).length cs) := hide (fun o => hO.alloc o)
        have hlen : ((Rf.uptoM x.id (p - 1)).map (Rf.batch x)).length ≤ 5 := by rw [List.length_map]; have := Rf.uptoM_len x.id (p - 1); omega
        have s2 := hb2.size
        have m1 : Hid (((Rf.uptoM x.id (p - 1)).map (Rf.batch x)).length + 1 ≤ maxLen) := hide (by unfold maxLen; omega)
        have m2 : Hid ((((Rf.uptoM x.id (p - 1)).map (Rf.batch x)).length + 1) * 88 ≤ 140737488355328) := hide (by omega)
        have m3 : ∀ o, Hid (w.heap.size + 1 ≤ (w2.alloc o).heap.size) := fun o => hide (by simp; omega)
        have h1 := hide (MC.one (show MC (Fresh wr w2) w2 [Rf.batch x (p : Int)] _ from ⟨_, [], (List.append_nil _).symm, hI, rfl⟩))
        have HC := hide hC
        clear hI hb2 hO hC C HM hOr hCr
        go_wp2_with (at_builtin; refine wpList_append_own_at _ rfl _ _ 28 rfl (w.heap.size + 1) 49 i0 _ 9 88 Try.underlying28 (unhide I0') (unhide I1') (unhide I2') (unhide I3') rfl (by decide) _ _ _ rfl (unhide HO2 _) ⟨w2.heap.size, 0, none⟩ 1 1 (mcs (Rf.batch x (p : Int)) (.slice ia IL ic)) rfl rfl (cell_nine_new _ _ _ _ _ _ _ _ _ _ _) (unhide h1) (unhide m1) (unhide m2) (unhide (m3 _)) ?_)
        intro v3 w3 ho hg _ hat
        have bn := below_new w2 (.cells (mcs (Rf.batch x (p : Int)) (.slice ia IL ic)).toArray 49)
        have HN : Hid (MO (w.heap.size + 1) w3 v3 ((Rf.uptoM x.id (p - 1)).map (Rf.batch x) ++ [Rf.batch x (p : Int)])) := hide (MO.next
          ((unhide HC).keep (fun b hp => ⟨⟨hp.1, by simp; omega, hp.2.2⟩, bn.block b hp.2.1⟩))
          (show MC _ _ [Rf.batch x (p : Int)] (mcs (Rf.batch x (p : Int)) (.slice ia IL ic)) from ⟨_, [], (List.append_nil _).symm, (unhide HI).keep (fun b hp => ⟨⟨by have := hp.1; omega, by have := hp.2; simp; omega, fun e => by have := (World.ownsRow.lt (unhide HOw) b e).2; have := hp.1; omega⟩, bn.block b hp.2⟩), rfl⟩) (by rw [List.length_map]; exact ho) hg (by simpa using hat))
        have hbb : Below (w.heap.size + 1) wr w3 := ((unhide HB2).mono sz).trans ((bn.mono (by omega)).trans (own_old (unhide HO2 _) hg (unhide (m3 _))))
        have HX3 := hide ((unhide HX).low' hbb (by omega))
        have HB3 := hide ((unhide HB).trans (hbb.mono (by omega)))
        have s3 : w.heap.size + 1 ≤ w3.heap.size := Nat.le_trans sz hbb.size
        clear ho hg hat bn hbb HC HOw HI HO2 m1 m2 m3 h1 HB2 hlen c0 c1 c2 c3 c4 c5 c6 c7 c8 c9 c10 s2
        go_wp2
        go_roundw
        case rel => exact ⟨p + 1, by go_num, by omega, by omega, by rw [unhide HU, List.map_append]; exact HN, HX3, HB3, s3⟩
        case measure => simp [intOf]; omega
    · have hp : p = N + 1 := by omega
      have HF : Hid (PostM w ((Rf.uptoM x.id N).map (Rf.batch x)) (.returned u3) wr) := hide ⟨u3, rfl, by
        have := (unhide HM).mv
        rw [hp, Nat.add_sub_cancel] at this
        exact this.keep (fun b hb => ⟨⟨by have := hb.1; omega, hb.2⟩, rfl⟩), unhide HB⟩
      have hi1 : ¬ (p : Int) ≤ (N : Int) := by omega
      clear hp
      go_wp2
      go_ret
      exact unhide HF

end Go.Proofs.Ytiplnegiphhdlaa.R15
