/- Nothing is ever wrong with a node, and no more is on its way than may be, for every number of nodes and every row of events; no conditions. -/
import Derived.Test.YtipneeeahndonaaCRG
import Derived.Test.YtipneeeahndonaaRows
import Derived.ProofKit
import Derived.OpenShut
import Derived.ChangeOld
import Derived.Lib.SmallJoins
import Derived.Carry
namespace Go.Proofs.Ytipneeeahndonaa.CL
open Go.RowKit

set_option maxHeartbeats 4000000 in
set_option maxRecDepth 100000 in
theorem through_ClusterRight_no (n : Int) (lv : Value) (l : List Rf.Ev) (c0 : Nat) (w : World) (hl : Ev' w lv l) (hno : ¬ (1 ≤ n ∧ n ≤ 5 ∧ l.length ≤ 300)) :
    Calls Try.prog 10 #[.int .i64 n, lv, .func (.func 17) #[] #[.pointer (some ⟨c0, 0, none⟩)]] w fun e w' => e = .returned (.bool true) ∧ Below w.heap.size w w' := by
  obtain ⟨la, LL, lc, rfl, hLL, hlc, _⟩ := SC.shp hl
  clear hl
  by_cases h15 : 1 ≤ n ∧ n ≤ 5
  · have h3 : (300 : Int) < (LL : Int) := by have := unhide hLL; omega
    obtain ⟨N, rfl⟩ : ∃ N : Nat, n = (N : Int) := ⟨n.toNat, by omega⟩
    have CS := hide (start_good (A := fun _ => True) raft_rc N w (fun _ _ => trivial) (by omega) (by omega))
    clear hno h15
    go_enter Try.func10, Try.ntmps10
    go_wp2_with fail
    refine (unhide CS).mono ?_
    rintro e w1 ⟨v1, rfl, hv1, b1⟩
    obtain ⟨nv1, tv1, rfl, ⟨nc1, n1, _⟩, ⟨tc1, t1, _⟩⟩ := hv1
    obtain ⟨na, NL, ncap, rfl, _, _, _⟩ := SC.shp n1
    obtain ⟨ta, TL, tcap, rfl, _, _, _⟩ := SC.shp t1
    have BE := hide (below_via b1 (below_new w1 (.cells #[.slice na NL ncap, .slice ta TL tcap] 29)))
    clear n1 t1 b1 CS
    go_wp2
    go_ret
    exact ⟨rfl, unhide BE⟩
  · have CS := hide (start_bad n w h15)
    clear hno h15
    go_enter Try.func10, Try.ntmps10
    go_wp2_with fail
    refine (unhide CS).mono ?_
    rintro e w1 ⟨rfl, b1⟩
    have BE := hide (below_via b1 (below_new w1 (.cells #[.slice none 0 0, .slice none 0 0] 29)))
    clear b1 CS
    go_wp2
    go_ret
    exact ⟨rfl, unhide BE⟩

set_option maxHeartbeats 4000000 in
set_option maxRecDepth 100000 in
theorem through_ClusterRight (B N : Nat) (lv : Value) (l : List Rf.Ev) (c0 : Nat) (I : Nat → World → (Nat → Prop) → Prop) (S : Nat → Prop) (w : World) (hl : EV (· < B) w lv l) (h1 : 1 ≤ N) (h5 : N ≤ 5) (h300 : l.length ≤ 300) (hB : B ≤ w.heap.size) (hI : Held B I) (h0 : I 0 w S) (hk : Looks 17 #[.pointer (some ⟨c0, 0, none⟩)] B I N l) :
    Calls Try.prog 10 #[.int .i64 (N : Int), lv, .func (.func 17) #[] #[.pointer (some ⟨c0, 0, none⟩)]] w fun e w' => e = .returned (.bool true) ∧ Below B w w' := by
  have HL := hide hl
  obtain ⟨la, LL, lc, rfl, hLL, hlc, _⟩ := SC.shp hl
  clear hl
  have HI := hide hI
  have HK := hide hk
  have HB := hide hB
  have HS0 := hide h0
  have HFit : Hid (∀ k, FitW (Rf.runW (N : Int) (l.take k))) := hide (fun k => by
    obtain ⟨g, hg⟩ := Rf.run_come (n := (N : Int)) (by omega) (by omega) (l.take k)
    exact FitW.of hg (by omega))
  have CS := hide (start_good (A := fun b => ¬ S b) raft_rc N w (fun b hb q => by have := (hI.low 0 w S h0 b q).2; omega) h1 h5)
  have h3' : ¬ (300 : Int) < (LL : Int) := by have := unhide hLL; omega
  have hL300 : LL ≤ 300 := by have := unhide hLL; omega
  clear hI hk hB h0
  go_enter Try.func10, Try.ntmps10
  go_wp2_with fail
  refine (unhide CS).mono ?_
  rintro e w1 ⟨v1, rfl, hv1, b1⟩
  obtain ⟨nv1, tv1, rfl, ⟨nc1, n1, _⟩, ⟨tc1, t1, _⟩⟩ := id hv1
  obtain ⟨na, NL, ncap, rfl, _, _, _⟩ := SC.shp n1
  obtain ⟨ta, TL, tcap, rfl, _, _, _⟩ := SC.shp t1
  obtain ⟨w2, hw2⟩ : ∃ w2, w2 = w1.alloc (.cells #[.slice na NL ncap, .slice ta TL tcap] 29) := ⟨_, rfl⟩
  have b2 : Below w1.heap.size w1 w2 := by rw [hw2]; exact below_new _ _
  have A0 : Hid (BK w2 w1.heap.size 29 #[.slice na NL ncap, .slice ta TL tcap]) := hide (by rw [hw2]; exact BK.new _ _ _)
  have b12 := below_via b1 b2
  have HV2 : Hid (∃ S, I 0 w2 S ∧ ¬ S w1.heap.size ∧ Wv (fun b => ¬ S b) w2 #[.slice na NL ncap, .slice ta TL tcap] (Rf.runW (N : Int) (l.take 0))) := hide (by
    have hlow := (unhide HI).low 0 w S (unhide HS0)
    refine ⟨S, (unhide HI).mono 0 w w2 S (unhide HS0) b12.size (fun b hb => b12.block b (hlow b hb).2), fun q => ?_, ?_⟩
    · have := (hlow _ q).2; have := b1.size; omega
    · rw [show Rf.runW (N : Int) (l.take 0) = Rf.startW N by simp [Rf.runW]]
      exact hv1.below b2)
  have HQ : Hid (B ≤ w1.heap.size) := hide (Nat.le_trans (unhide HB) b1.size)
  have B2 := hide (b12.mono (unhide HB))
  clear n1 t1 hv1 b1 b2 b12 CS HS0
  go_upto_region 2 with fail
  rw [← hw2]
  clear hw2
  generalize w1.heap.size = qb at A0 HV2 HQ ⊢
  go_wp2_with fail
  go_loopw [9] (fun i wr => ∃ k : Nat, k ≤ LL ∧ i = .int .i64 (k : Int) ∧ ∃ na NL ncap ta TL tcap, Hid (BK wr qb 29 #[.slice na NL ncap, .slice ta TL tcap]) ∧ Hid (∃ S, I k wr S ∧ ¬ S qb ∧ Wv (fun b => ¬ S b) wr #[.slice na NL ncap, .slice ta TL tcap] (Rf.runW (N : Int) (l.take k))) ∧ Hid (Below B w wr)) (fun i _ => LL - (intOf i).toNat)
  case atStart => exact ⟨0, Nat.zero_le _, rfl, _, _, _, _, _, _, A0, HV2, B2⟩
  case round =>
    obtain ⟨k, hk, rfl, na', NL', ncap', ta', TL', tcap', HA, HV, HW⟩ := hrel
    obtain ⟨S1, i1, s1, hv⟩ := unhide HV
    have a0 : wr.cell? ⟨qb, 0, none⟩ = some (.slice na' NL' ncap') := (unhide HA).at rfl
    have a1 : wr.cell? ⟨qb, 1, none⟩ = some (.slice ta' TL' tcap') := (unhide HA).at rfl
    have CL := hide (unhide HK k wr _ S1 (by have := unhide hLL; omega) (Nat.le_trans (unhide HB) (unhide HW).size) hv i1)
    have HV1 := hide hv
    have QL := hide (And.intro (unhide HA).low s1)
    clear hv i1 s1 HV
    go_wp2_with fail
    refine (unhide CL).mono ?_
    rintro e w3 ⟨rfl, b3, S3, i3, k3⟩
    have HA3 := hide (show BK w3 qb 29 #[.slice na' NL' ncap', .slice ta' TL' tcap'] from (k3 qb (unhide QL).1 (unhide QL).2).2.trans (unhide HA))
    have hq3 := (k3 qb (unhide QL).1 (unhide QL).2).1
    have hv3 : Wv (fun b => ¬ S3 b) w3 #[.slice na' NL' ncap', .slice ta' TL' tcap'] (Rf.runW (N : Int) (l.take k)) := WV.keep (fun b hb => ⟨⟨Nat.lt_of_lt_of_le hb.1 b3.size, (k3 b hb.1 hb.2).1⟩, (k3 b hb.1 hb.2).2⟩) (unhide HV1)
    have W3 := hide ((unhide HW).trans b3)
    have HI3 := hide (And.intro i3 (And.intro hq3 hv3))
    clear b3 i3 k3 hq3 hv3 a0 a1 CL HV1 QL
    by_cases hkl : k = LL
    · subst hkl
      clear HA HA3
      go_wp2
      go_ret
      exact ⟨rfl, unhide W3⟩
    · have hne : ((k : Int) == (LL : Int)) = false := by rw [beq_eq_false_iff_ne]; omega
      have hlt : k < LL := by omega
      have hlt' : (k : Int) < (LL : Int) := by omega
      obtain ⟨ev, hx⟩ : ∃ ev, l[k]? = some ev := ⟨_, List.getElem?_eq_getElem (by have := unhide hLL; omega)⟩
      have HLr : EV (· < B) w3 (.slice la LL lc) l := EV.keep (fun b hb => ⟨hb, (unhide W3).block b hb⟩) (unhide HL)
      obtain ⟨b, off, rfl, _, d0, d1, d2⟩ := HLr.at hx
      have a0 : w3.cell? ⟨qb, 0, none⟩ = some (.slice na' NL' ncap') := (unhide HA3).at rfl
      have a1 : w3.cell? ⟨qb, 1, none⟩ = some (.slice ta' TL' tcap') := (unhide HA3).at rfl
      have hrt := Rf.run_take (N : Int) l hx
      have hlow := hide ((unhide HI).low k.succ w3 S3 (unhide HI3).1)
      have CP := hide (step_any (A := fun b => ¬ S3 b) (Rf.runW (N : Int) (l.take k)) _ ev.kind ev.node ev.pick w3.drew (fun b hb q => by have : b < w3.heap.size := (unhide hlow b q).2; have hb' : w3.heap.size ≤ b := hb; omega) ((unhide HI3).2.2.below (below_drew w3)) (unhide HFit k) (by rw [show (⟨ev.kind, ev.node, ev.pick⟩ : Rf.Ev) = ev from rfl, ← hrt]; exact unhide HFit (k + 1)))
      rw [show (⟨ev.kind, ev.node, ev.pick⟩ : Rf.Ev) = ev from rfl, ← hrt] at CP
      have hk1 : IntKind.i64.wrap ((k : Int) + 1) = ((k + 1 : Nat) : Int) := wrap_i64 (by omega) (by omega)
      clear HLr HA hrt hx
      go_wp2_with fail
      go_region_with (go_at_call 21; (with_reducible refine (unhide CP).mono ?_); rintro e w4 ⟨v4, rfl, hv4, b4x⟩; have b4 : Below w3.heap.size w3 w4 := (below_drew w3).trans b4x; obtain ⟨nv4, tv4, rfl, ⟨nc4, n4, _⟩, ⟨tc4, t4, _⟩⟩ := id hv4; obtain ⟨na4, NL4, ncap4, rfl, _, _, _⟩ := SC.shp n4; obtain ⟨ta4, TL4, tcap4, rfl, _, _, _⟩ := SC.shp t4; have A4 := (unhide HA3).keep b4; clear a0 a1; have a0 := A4.at (j := 0) rfl; have a1 := A4.at (j := 1) rfl; have f0 := A4.thaw 0; have f1 := A4.thaw 1)
      all_goals
        have SB4 : SB w4 qb := ⟨_, _, _, _, _, _, _, A4⟩
        have hz : ((w4.setCell ⟨qb, 0, none⟩ (.slice na4 NL4 ncap4)).setCell ⟨qb, 1, none⟩ (.slice ta4 TL4 tcap4)).heap.size = w4.heap.size := by simp [World.setCell]
        have hs : ∀ b, b ≠ qb → ((w4.setCell ⟨qb, 0, none⟩ (.slice na4 NL4 ncap4)).setCell ⟨qb, 1, none⟩ (.slice ta4 TL4 tcap4)).heap[b]? = w4.heap[b]? := fun b hn => (Below.heap_setCell _ ⟨qb, 1, none⟩ _ b hn).trans (Below.heap_setCell _ ⟨qb, 0, none⟩ _ b hn)
        have Y0 : Hid (BK ((w4.setCell ⟨qb, 0, none⟩ (.slice na4 NL4 ncap4)).setCell ⟨qb, 1, none⟩ (.slice ta4 TL4 tcap4)) qb 29 #[.slice na4 NL4 ncap4, .slice ta4 TL4 tcap4]) := hide ((A4.set 0 _).set 1 _)
        have Y1 : Hid (∃ S, I (k + 1) ((w4.setCell ⟨qb, 0, none⟩ (.slice na4 NL4 ncap4)).setCell ⟨qb, 1, none⟩ (.slice ta4 TL4 tcap4)) S ∧ ¬ S qb ∧ Wv (fun b => ¬ S b) ((w4.setCell ⟨qb, 0, none⟩ (.slice na4 NL4 ncap4)).setCell ⟨qb, 1, none⟩ (.slice ta4 TL4 tcap4)) #[.slice na4 NL4 ncap4, .slice ta4 TL4 tcap4] (Rf.runW (N : Int) (l.take (k + 1)))) := hide ⟨S3, (unhide HI).mono (k + 1) w3 _ S3 (unhide HI3).1 (by rw [hz]; exact b4.size) (fun b hb => (hs b (fun e => (unhide HI3).2.1 (e ▸ hb))).trans (b4.block b (unhide hlow b hb).2)), (unhide HI3).2.1, wv_put SB4 hv4 _ _⟩
        have Y2 : Hid (Below B w ((w4.setCell ⟨qb, 0, none⟩ (.slice na4 NL4 ncap4)).setCell ⟨qb, 1, none⟩ (.slice ta4 TL4 tcap4))) := hide ((((unhide W3).trans (b4.mono (Nat.le_trans (unhide HB) (unhide W3).size))).setCell (unhide HQ) _).setCell (unhide HQ) _)
        clear SB4 hz hs hv4 b4 b4x n4 t4 A4 a0 a1 f0 f1 d0 d1 d2 CP
        go_wp2
        go_roundw
        case rel => exact ⟨k + 1, by omega, by go_num, _, _, _, _, _, _, Y0, Y1, Y2⟩
        case measure => simp [intOf]; omega

end Go.Proofs.Ytipneeeahndonaa.CL

namespace Go.Proofs.Ytipneeeahndonaa.CL
open Go.RowKit

theorem NsV.rowC {P : Nat → Prop} {w : World} {b off cap n : Nat} {l : List Rf.Node} (h : NsV P w (.slice (some ⟨b, off, none⟩) n cap) l) {i : Nat} {y : Rf.Node} (hy : l[i]? = some y) : ∃ (a1 : Option Addr) (n1 c1 : Nat) (a2 : Option Addr) (n2 c2 : Nat) (a3 : Option Addr) (n3 c3 : Nat) (a4 : Option Addr) (n4 c4 : Nat), NV P w #[.int .i64 y.id, .int .i64 y.n, .int .i64 y.term, .int .i64 y.vote, .slice a1 n1 c1, .int .i64 y.commit, .int .i64 y.role, .int .i64 y.boss, .slice a2 n2 c2, .slice a3 n3 c3, .slice a4 n4 c4] y ∧ w.cell? ⟨b, off + i * 11, none⟩ = some (.int .i64 y.id) ∧ w.cell? ⟨b, off + i * 11 + 1, none⟩ = some (.int .i64 y.n) ∧ w.cell? ⟨b, off + i * 11 + 2, none⟩ = some (.int .i64 y.term) ∧ w.cell? ⟨b, off + i * 11 + 3, none⟩ = some (.int .i64 y.vote) ∧ w.cell? ⟨b, off + i * 11 + 4, none⟩ = some (.slice a1 n1 c1) ∧ w.cell? ⟨b, off + i * 11 + 5, none⟩ = some (.int .i64 y.commit) ∧ w.cell? ⟨b, off + i * 11 + 6, none⟩ = some (.int .i64 y.role) ∧ w.cell? ⟨b, off + i * 11 + 7, none⟩ = some (.int .i64 y.boss) ∧ w.cell? ⟨b, off + i * 11 + 8, none⟩ = some (.slice a2 n2 c2) ∧ w.cell? ⟨b, off + i * 11 + 9, none⟩ = some (.slice a3 n3 c3) ∧ w.cell? ⟨b, off + i * 11 + 10, none⟩ = some (.slice a4 n4 c4) := by
  obtain ⟨v, hN, hc⟩ := h.at hy
  obtain ⟨a1, n1, c1, a2, n2, c2, a3, n3, c3, a4, n4, c4, rfl⟩ := hN.cellsC
  exact ⟨a1, n1, c1, a2, n2, c2, a3, n3, c3, a4, n4, c4, hN, hc 0 _ rfl, hc 1 _ rfl, hc 2 _ rfl, hc 3 _ rfl, hc 4 _ rfl, hc 5 _ rfl, hc 6 _ rfl, hc 7 _ rfl, hc 8 _ rfl, hc 9 _ rfl, hc 10 _ rfl⟩

/-- the number of nodes is kept in a block -/
def KeepN (B c0 : Nat) (N : Int) (_ : Nat) (w : World) (S : Nat → Prop) : Prop := (∀ b, S b ↔ b = c0) ∧ BK w c0 3 #[.int .i64 N] ∧ B ≤ c0
theorem keepN_held (B c0 : Nat) (N : Int) : Held B (KeepN B c0 N) :=
  ⟨fun _ _ _ _ ⟨h1, h2, h3⟩ _ hb => ⟨h1, (hb c0 ((h1 c0).2 rfl)).trans h2, h3⟩, fun _ _ _ ⟨h1, h2, h3⟩ b hb => by obtain rfl := (h1 b).1 hb; exact ⟨h3, h2.low⟩⟩

set_option maxHeartbeats 4000000 in
set_option maxRecDepth 100000 in
theorem right_look (B c0 N : Nat) (l : List Rf.Ev) (h1 : 1 ≤ N) (h5 : N ≤ 5) : Looks 17 #[.pointer (some ⟨c0, 0, none⟩)] B (KeepN B c0 N) N l := by
  intro i w v S _ hB hv hI
  obtain ⟨g, hg⟩ := Rf.run_come (n := (N : Int)) (by omega) (by omega) (l.take i)
  have hlen := hg.1.len
  have hnet := hg.1.net
  have hnd := hg.1.nd
  clear hg
  generalize Rf.runW (N : Int) (l.take i) = W at hv hlen hnet hnd
  obtain ⟨nv, tv, rfl, hN, ⟨tc, t1, _⟩⟩ := hv
  obtain ⟨ta, TL, tcap, rfl, hTL, _, _⟩ := SC.shp t1
  clear t1
  have hNs : NsV (· < w.heap.size) w nv W.nodes := hN.keep fun b hb => ⟨hb.1, rfl⟩
  clear hN
  have hlN : W.nodes.length = N := by omega
  obtain ⟨b, off, cap, rfl, _, hcap, _⟩ := hNs.ex (by intro e; rw [e] at hlN; simp at hlN; omega)
  rw [hlN] at hcap hNs ⊢
  have HN := hide hNs
  have HND := hide hnd
  have HLN := hide hlN
  have HI := hide hI
  have HBB := hide hB
  have hT60 : (TL : Int) ≤ 60 := by have := unhide hTL; omega
  have hT60' : TL ≤ 60 := by omega
  clear hNs hnd hlN hI hB hlen hnet
  obtain ⟨U0, hU0⟩ : ∃ U0, U0 = w.alloc (.cells #[.slice (some ⟨b, off, none⟩) N cap, .slice ta TL tcap] 29) := ⟨_, rfl⟩
  have HB : Hid (Below w.heap.size w U0) := hide (by rw [hU0]; exact below_new _ _)
  have X0 : Hid (BK U0 w.heap.size 29 #[.slice (some ⟨b, off, none⟩) N cap, .slice ta TL tcap]) := hide (by rw [hU0]; exact BK.new _ _ _)
  have x0 : U0.cell? ⟨w.heap.size, 0, none⟩ = some (.slice (some ⟨b, off, none⟩) N cap) := (unhide X0).at rfl
  go_enter Try.func17, Try.ntmps17
  go_upto_region 1 with fail
  rw [← hU0]
  clear hU0
  go_wp2_with fail
  go_loopw [9] (fun i wr => ∃ k : Nat, k ≤ N ∧ i = .int .i64 (k : Int) ∧ Hid (Below U0.heap.size U0 wr)) (fun i _ => N - (intOf i).toNat)
  case atStart => exact ⟨0, Nat.zero_le _, rfl, hide (Below.refl _ _)⟩
  case round =>
    obtain ⟨k, hk, rfl, HW⟩ := hrel
    clear x0
    have HWw := hide (below_via (unhide HB) (unhide HW))
    by_cases hlt : k < N
    · have hi1 : (k : Int) < (N : Int) := by omega
      obtain ⟨y, hy⟩ : ∃ y, W.nodes[k]? = some y := ⟨_, List.getElem?_eq_getElem (by have := unhide HLN; omega)⟩
      obtain ⟨_, rr, hid, hn⟩ := unhide HND k y hy
      have e0 : Rf.wrongN y = 0 := (Rf.wrongN_ok y).2 rr
      obtain ⟨a1, n1, c1, a2, n2, c2, a3, n3, c3, a4, n4, c4, hNy, d0, d1, d2, d3, d4, d5, d6, d7, d8, d9, d10⟩ := NsV.rowC (NsV.keep (kept (unhide HWw)) (unhide HN)) hy
      obtain ⟨U1, hU1⟩ : ∃ U, U = wr.alloc (.cells #[.int .i64 y.id, .int .i64 y.n, .int .i64 y.term, .int .i64 y.vote, .slice a1 n1 c1, .int .i64 y.commit, .int .i64 y.role, .int .i64 y.boss, .slice a2 n2 c2, .slice a3 n3 c3, .slice a4 n4 c4] 33) := ⟨_, rfl⟩
      have bn : Below wr.heap.size wr U1 := by rw [hU1]; exact below_new _ _
      have CY := hide (raft_rc.wrong y _ U1 (hNy.keep (kept bn)) (right_fits y e0))
      rw [e0] at CY
      have XY : Hid (BK U1 wr.heap.size 33 #[.int .i64 y.id, .int .i64 y.n, .int .i64 y.term, .int .i64 y.vote, .slice a1 n1 c1, .int .i64 y.commit, .int .i64 y.role, .int .i64 y.boss, .slice a2 n2 c2, .slice a3 n3 c3, .slice a4 n4 c4]) := hide (by rw [hU1]; exact BK.new _ _ _)
      have HW1 := hide (below_via (unhide HW) bn)
      have E1 := hide hid
      have E2 := hide hn
      clear hNy bn hy rr hid hn e0
      obtain ⟨t0, t1, t2, t3, t4, t5, t6, t7, t8, t9, t10⟩ := (show NX U1 wr.heap.size _ _ _ _ _ _ _ _ _ _ _ from unhide XY).tell
      go_upto_region 4 with fail
      rw [← hU1]
      clear hU1
      go_wp2_with fail
      with_reducible refine (unhide CY).mono ?_
      rintro e w4 ⟨rfl, hb⟩
      replace XY := hide ((unhide XY).keep hb)
      have HW2 := hide (below_via (unhide HW1) hb)
      clear d0 d1 d2 d3 d4 d5 d6 d7 d8 d9 d10 t0 t1 t2 t3 t4 t5 t6 t7 t8 t9 t10 CY hb
      obtain ⟨t0, t1, t2, t3, t4, t5, t6, t7, t8, t9, t10⟩ := (show NX w4 wr.heap.size _ _ _ _ _ _ _ _ _ _ _ from unhide XY).tell
      have q0 : w4.cell? ⟨c0, 0, none⟩ = some (.int .i64 (N : Int)) := ((unhide HI).2.1.keep (below_via (unhide HB) (unhide HW2))).at rfl
      rw [unhide E1] at t0
      rw [unhide E2] at t1
      have hk1 : IntKind.i64.wrap ((k : Int) + 1) = (k : Int) + 1 := wrap_i64 (by omega) (by omega)
      go_wp2
      go_roundw
      case rel => exact ⟨k + 1, by omega, by go_num, HW2⟩
      case measure => simp [intOf]; omega
    · obtain rfl : k = N := by omega
      have x0 : wr.cell? ⟨w.heap.size, 0, none⟩ = some (.slice (some ⟨b, off, none⟩) k cap) := ((unhide X0).keep (unhide HW)).at rfl
      have x1 : wr.cell? ⟨w.heap.size, 1, none⟩ = some (.slice ta TL tcap) := ((unhide X0).keep (unhide HW)).at rfl
      have q0 : wr.cell? ⟨c0, 0, none⟩ = some (.int .i64 (k : Int)) := ((unhide HI).2.1.keep (unhide HWw)).at rfl
      go_wp2
      go_ret
      refine ⟨rfl, (unhide HWw).mono (unhide HBB), S, (keepN_held B c0 k).mono i w wr S (unhide HI) (unhide HWw).size (fun b hb => (unhide HWw).block b ((keepN_held B c0 k).low i w S (unhide HI) b hb).2), fun b hb hs => ⟨hs, (unhide HWw).block b hb⟩⟩

set_option maxHeartbeats 4000000 in
set_option maxRecDepth 100000 in
theorem right_walk16 (n : Int) (lv : Value) (l : List Rf.Ev) (w : World) (hl : Ev' w lv l) :
    Calls Try.prog 8 #[.int .i64 n, lv] w fun e w' => e = .returned (.bool true) ∧ Below w.heap.size w w' := by
  have HL := hide hl
  obtain ⟨la, LL, lc, rfl, _, _, _⟩ := SC.shp hl
  clear hl
  obtain ⟨U0, hU0⟩ : ∃ U0, U0 = w.alloc (.cells #[.int .i64 n] 3) := ⟨_, rfl⟩
  have HB : Hid (Below w.heap.size w U0) := hide (by rw [hU0]; exact below_new _ _)
  have X0 : Hid (BK U0 w.heap.size 3 #[.int .i64 n]) := hide (by rw [hU0]; exact BK.new _ _ _)
  have CA := hide (alive_any U0)
  go_enter Try.func8, Try.ntmps8
  go_upto_region 1 with fail
  rw [← hU0]
  clear hU0
  go_wp2_with fail
  refine (unhide CA).mono ?_
  rintro e w1 ⟨rfl, b1⟩
  have X1 := (unhide X0).keep b1
  have B1 := hide (below_via (unhide HB) b1)
  have x0 : w1.cell? ⟨w.heap.size, 0, none⟩ = some (.int .i64 n) := X1.at rfl
  by_cases hgo : 1 ≤ n ∧ n ≤ 5 ∧ l.length ≤ 300
  · obtain ⟨N, rfl⟩ : ∃ N : Nat, n = (N : Int) := ⟨n.toNat, by omega⟩
    have CT := hide (through_ClusterRight w.heap.size N (.slice la LL lc) l w.heap.size (KeepN w.heap.size w.heap.size N) (fun b => b = w.heap.size) w1 (EV.keep (fun b hb => ⟨hb, (unhide B1).block b hb⟩) (unhide HL)) (by omega) (by omega) hgo.2.2 (unhide B1).size (keepN_held _ _ _) ⟨fun _ => Iff.rfl, X1, Nat.le_refl _⟩ (right_look _ _ N l (by omega) (by omega)))
    clear X1 b1 hgo CA X0
    go_wp2_with fail
    refine (unhide CT).mono ?_
    rintro e w2 ⟨rfl, b2⟩
    have BE := hide ((unhide B1).trans b2)
    clear b2 CT
    go_wp2
    go_ret
    exact ⟨rfl, unhide BE⟩
  · have CT := hide (through_ClusterRight_no n (.slice la LL lc) l w.heap.size w1 (EV.keep (kept (unhide B1)) (unhide HL)) hgo)
    clear X1 b1 hgo CA X0
    go_wp2_with fail
    refine (unhide CT).mono ?_
    rintro e w2 ⟨rfl, b2⟩
    have BE := hide (below_via (unhide B1) b2)
    clear b2 CT
    go_wp2
    go_ret
    exact ⟨rfl, unhide BE⟩

end Go.Proofs.Ytipneeeahndonaa.CL

namespace Go.Proofs.Ytipneeeahndonaa.clusterRightDone
open Go.ChangeShapes Go.WideShapes Go.ChangeAt Go.RowKit Go.Joins
open Go.Proofs.Ytipneeeahndonaa Go.Proofs.Ytipneeeahndonaa.CL

theorem own : ownKnob Try.prog.godebug = none := by kernel_rfl

set_option maxRecDepth 100000 in
theorem lifted (os : Os) (started : os.Started) (H : Type) (enc : TypeId × Value → H) :
    ReturnsInHanded {} Try.checked os 8 .any (Rows.clusterRightSpec.pre6 enc Try.prog Try.f8 Rows.clusterRightRow.domain false) (Rows.clusterRightSpec.post enc Try.prog Try.f8 false true false false) := by
  refine returnsInHanded_of_change (C := Try.checked) own started (by kernel_rfl) Try.func8
    (ChangeSpec.witness6 (enc := enc) (C := Try.checked) false ⟨#[], #[.int .i64 0, .slice none 0 0], []⟩ 8 (by kernel_rfl) (by kernel_rfl) (by kernel_rfl) (by kernel_rfl)) ?_
  intro W base args ds gs before hval0 hW _ _
  have hval : ∀ (j : Nat) t v, Try.f8.params[j]? = some t → args[j]? = some v → Value.okWide Try.prog W .any base t v := hval0
  have hW' := hW
  obtain ⟨p, q, hA0, hV, rfl, hfz, hnd⟩ := hW
  have hA : DataW.TrodAll enc Try.prog W 0 (fun _ => true) true Try.f8.params.toList args.toList ds p := hA0
  rw [Try.params8] at hA hval
  obtain ⟨v0, vs0, d0, ds0, p0, q0, hargs, rfl, rfl, h0, r0⟩ := trodAll_cons hA
  obtain ⟨v1, vs1, d1, ds1, p1, q1, rfl, rfl, rfl, h1, r1⟩ := trodAll_cons r0
  obtain ⟨rfl, rfl, rfl⟩ := trodAll_nil r1
  obtain rfl : args = #[v0, v1] := by cases args; simp_all
  obtain ⟨rfl, rfl⟩ := trodVars_none hV
  simp only [List.append_nil] at hW'
  have hlt := fun x hx => hW'.lt x hx
  simp only [List.mem_append] at hlt
  have l0 : ∀ x ∈ p0, x.block < W.heap.size := fun x hx => by simpa using hlt x (by simp [hx])
  have k0 := h0
  obtain ⟨t0, rfl⟩ := okWide_int Try.underlying3 (hval 0 3 v0 rfl rfl)
  obtain ⟨f0, hf0⟩ := h0
  obtain ⟨z0, e0, _⟩ := DataW.trod_int Try.underlying3 hf0
  simp [Value.cells] at e0
  subst e0
  have l1 : ∀ x ∈ p1, x.block < W.heap.size := fun x hx => by simpa using hlt x (by simp [hx])
  have k1 := h1
  obtain ⟨t1, m1⟩ := events_value (hval 1 22 v1 rfl rfl) h1
  clear hA0 hval0 hlt
  refine (right_walk16 t0 v1 t1 W m1 ).mono fun e W' ⟨he, bel⟩ => ?_
  subst he
  exact ⟨_, rfl, _, _, _, [], _, [], hW', trodAll_mk1 (shut_bool Try.underlying4 _), (trodAll_cons_mk (Below.trod laidOut16 (by kernel_rfl) (of_decide_eq_true (by kernel_rfl)) k0 bel l0) (trodAll_cons_mk (Below.trod laidOut16 (by kernel_rfl) (of_decide_eq_true (by kernel_rfl)) k1 bel l1) trodAll_mk0)), rfl, bel.frame _, fun h => by cases h⟩

theorem over : Rows.clusterRightRow.holds Try.pinned (OpenSpec.ofChange Rows.clusterRightSpec) :=
  OpenClaim.holds_of_wide 8 Try.f8 rfl rfl rfl rfl rfl rfl rfl ⟨rfl, rfl, rfl, rfl, rfl⟩ rfl rfl rfl rfl rfl (by kernel_rfl) Try.func8 (by kernel_rfl)
    (of_decide_eq_true (by kernel_rfl)) (by unfold Func.isWrapper; first | (rw [if_pos (by decide +kernel)]; kernel_rfl) | (rw [if_neg (by decide +kernel)]; exact ⟨rfl, rfl⟩))
    (fun os started H enc _ => lifted os started H enc)
end Go.Proofs.Ytipneeeahndonaa.clusterRightDone
namespace Go.Proofs.Ytipneeeahndonaa
theorem clusterRight_holds : Rows.ClusterRightSaid := clusterRightDone.over
end Go.Proofs.Ytipneeeahndonaa
