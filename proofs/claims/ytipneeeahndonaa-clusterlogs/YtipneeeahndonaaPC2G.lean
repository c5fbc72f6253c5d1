/- Two logs with items of the same term at the same place are the same up to there, in every world that comes about, for every number of nodes and every row of events; no conditions. -/
import Derived.Test.YtipneeeahndonaaCRG
import Derived.Test.YtipneeeahndonaaMC
import Derived.Deep.QuietTactic
import Derived.BigQuiet
import Derived.Test.YtipneeeahndonaaRows
import Derived.ProofKit
import Derived.OpenShut
import Derived.ChangeOld
import Derived.Lib.SmallJoins
import Derived.Carry
namespace Go.Proofs.Ytipneeeahndonaa.CL
open Go.RowKit

set_option maxHeartbeats 4000000 in
set_option maxRecDepth 100000 in
theorem through_ClusterLogs_no (n : Int) (lv : Value) (l : List Rf.Ev) (w : World) (hl : Ev' w lv l) (hno : ¬ (1 ≤ n ∧ n ≤ 5 ∧ l.length ≤ 300)) :
    Calls Try.prog 10 #[.int .i64 n, lv, .func (.func 12) #[] #[]] w fun e w' => e = .returned (.bool true) ∧ Below w.heap.size w w' := by
  obtain ⟨la, LL, lc, rfl, hLL, hlc, _⟩ := SC.shp hl
  clear hl
  by_cases h15 : 1 ≤ n ∧ n ≤ 5
  · have h3 : (300 : Int) < (LL : Int) := by have := unhide hLL; omega
    obtain ⟨N, rfl⟩ : ∃ N : Nat, n = (N : Int) := ⟨n.toNat, by omega⟩
    have CS := hide (start_good (A := fun _ => True) raft_rc N w (fun _ _ => trivial) (by omega) (by omega))
    clear hno h15
    go_enter Try.func10, Try.ntmps10
    go_wp2_with fail
    refine (unhide CS).mono ?_
    rintro e w1 ⟨v1, rfl, hv1, b1⟩
    obtain ⟨nv1, tv1, rfl, ⟨nc1, n1, _⟩, ⟨tc1, t1, _⟩⟩ := hv1
    obtain ⟨na, NL, ncap, rfl, _, _, _⟩ := SC.shp n1
    obtain ⟨ta, TL, tcap, rfl, _, _, _⟩ := SC.shp t1
    have BE := hide (below_via b1 (below_new w1 (.cells #[.slice na NL ncap, .slice ta TL tcap] 29)))
    clear n1 t1 b1 CS
    go_wp2
    go_ret
    exact ⟨rfl, unhide BE⟩
  · have CS := hide (start_bad n w h15)
    clear hno h15
    go_enter Try.func10, Try.ntmps10
    go_wp2_with fail
    refine (unhide CS).mono ?_
    rintro e w1 ⟨rfl, b1⟩
    have BE := hide (below_via b1 (below_new w1 (.cells #[.slice none 0 0, .slice none 0 0] 29)))
    clear b1 CS
    go_wp2
    go_ret
    exact ⟨rfl, unhide BE⟩

set_option maxHeartbeats 4000000 in
set_option maxRecDepth 100000 in
theorem through_ClusterLogs (B N : Nat) (lv : Value) (l : List Rf.Ev) (I : Nat → World → (Nat → Prop) → Prop) (S : Nat → Prop) (w : World) (hl : EV (· < B) w lv l) (h1 : 1 ≤ N) (h5 : N ≤ 5) (h300 : l.length ≤ 300) (hB : B ≤ w.heap.size) (hI : Held B I) (h0 : I 0 w S) (hk : Looks 12 #[] B I N l) :
    Calls Try.prog 10 #[.int .i64 (N : Int), lv, .func (.func 12) #[] #[]] w fun e w' => e = .returned (.bool true) ∧ Below B w w' := by
  have HL := hide hl
  obtain ⟨la, LL, lc, rfl, hLL, hlc, _⟩ := SC.shp hl
  clear hl
  have HI := hide hI
  have HK := hide hk
  have HB := hide hB
  have HS0 := hide h0
  have HFit : Hid (∀ k, FitW (Rf.runW (N : Int) (l.take k))) := hide (fun k => by
    obtain ⟨g, hg⟩ := Rf.run_come (n := (N : Int)) (by omega) (by omega) (l.take k)
    exact FitW.of hg (by omega))
  have CS := hide (start_good (A := fun b => ¬ S b) raft_rc N w (fun b hb q => by have := (hI.low 0 w S h0 b q).2; omega) h1 h5)
  have h3' : ¬ (300 : Int) < (LL : Int) := by have := unhide hLL; omega
  have hL300 : LL ≤ 300 := by have := unhide hLL; omega
  clear hI hk hB h0
  go_enter Try.func10, Try.ntmps10
  go_wp2_with fail
  refine (unhide CS).mono ?_
  rintro e w1 ⟨v1, rfl, hv1, b1⟩
  obtain ⟨nv1, tv1, rfl, ⟨nc1, n1, _⟩, ⟨tc1, t1, _⟩⟩ := id hv1
  obtain ⟨na, NL, ncap, rfl, _, _, _⟩ := SC.shp n1
  obtain ⟨ta, TL, tcap, rfl, _, _, _⟩ := SC.shp t1
  obtain ⟨w2, hw2⟩ : ∃ w2, w2 = w1.alloc (.cells #[.slice na NL ncap, .slice ta TL tcap] 29) := ⟨_, rfl⟩
  have b2 : Below w1.heap.size w1 w2 := by rw [hw2]; exact below_new _ _
  have A0 : Hid (BK w2 w1.heap.size 29 #[.slice na NL ncap, .slice ta TL tcap]) := hide (by rw [hw2]; exact BK.new _ _ _)
  have b12 := below_via b1 b2
  have HV2 : Hid (∃ S, I 0 w2 S ∧ ¬ S w1.heap.size ∧ Wv (fun b => ¬ S b) w2 #[.slice na NL ncap, .slice ta TL tcap] (Rf.runW (N : Int) (l.take 0))) := hide (by
    have hlow := (unhide HI).low 0 w S (unhide HS0)
    refine ⟨S, (unhide HI).mono 0 w w2 S (unhide HS0) b12.size (fun b hb => b12.block b (hlow b hb).2), fun q => ?_, ?_⟩
    · have := (hlow _ q).2; have := b1.size; omega
    · rw [show Rf.runW (N : Int) (l.take 0) = Rf.startW N by simp [Rf.runW]]
      exact hv1.below b2)
  have HQ : Hid (B ≤ w1.heap.size) := hide (Nat.le_trans (unhide HB) b1.size)
  have B2 := hide (b12.mono (unhide HB))
  clear n1 t1 hv1 b1 b2 b12 CS HS0
  go_upto_region 2 with fail
  rw [← hw2]
  clear hw2
  generalize w1.heap.size = qb at A0 HV2 HQ ⊢
  go_wp2_with fail
  go_loopw [9] (fun i wr => ∃ k : Nat, k ≤ LL ∧ i = .int .i64 (k : Int) ∧ ∃ na NL ncap ta TL tcap, Hid (BK wr qb 29 #[.slice na NL ncap, .slice ta TL tcap]) ∧ Hid (∃ S, I k wr S ∧ ¬ S qb ∧ Wv (fun b => ¬ S b) wr #[.slice na NL ncap, .slice ta TL tcap] (Rf.runW (N : Int) (l.take k))) ∧ Hid (Below B w wr)) (fun i _ => LL - (intOf i).toNat)
  case atStart => exact ⟨0, Nat.zero_le _, rfl, _, _, _, _, _, _, A0, HV2, B2⟩
  case round =>
    obtain ⟨k, hk, rfl, na', NL', ncap', ta', TL', tcap', HA, HV, HW⟩ := hrel
    obtain ⟨S1, i1, s1, hv⟩ := unhide HV
    have a0 : wr.cell? ⟨qb, 0, none⟩ = some (.slice na' NL' ncap') := (unhide HA).at rfl
    have a1 : wr.cell? ⟨qb, 1, none⟩ = some (.slice ta' TL' tcap') := (unhide HA).at rfl
    have CL := hide (unhide HK k wr _ S1 (by have := unhide hLL; omega) (Nat.le_trans (unhide HB) (unhide HW).size) hv i1)
    have HV1 := hide hv
    have QL := hide (And.intro (unhide HA).low s1)
    clear hv i1 s1 HV
    go_wp2_with fail
    refine (unhide CL).mono ?_
    rintro e w3 ⟨rfl, b3, S3, i3, k3⟩
    have HA3 := hide (show BK w3 qb 29 #[.slice na' NL' ncap', .slice ta' TL' tcap'] from (k3 qb (unhide QL).1 (unhide QL).2).2.trans (unhide HA))
    have hq3 := (k3 qb (unhide QL).1 (unhide QL).2).1
    have hv3 : Wv (fun b => ¬ S3 b) w3 #[.slice na' NL' ncap', .slice ta' TL' tcap'] (Rf.runW (N : Int) (l.take k)) := WV.keep (fun b hb => ⟨⟨Nat.lt_of_lt_of_le hb.1 b3.size, (k3 b hb.1 hb.2).1⟩, (k3 b hb.1 hb.2).2⟩) (unhide HV1)
    have W3 := hide ((unhide HW).trans b3)
    have HI3 := hide (And.intro i3 (And.intro hq3 hv3))
    clear b3 i3 k3 hq3 hv3 a0 a1 CL HV1 QL
    by_cases hkl : k = LL
    · subst hkl
      clear HA HA3
      go_wp2
      go_ret
      exact ⟨rfl, unhide W3⟩
    · have hne : ((k : Int) == (LL : Int)) = false := by rw [beq_eq_false_iff_ne]; omega
      have hlt : k < LL := by omega
      have hlt' : (k : Int) < (LL : Int) := by omega
      obtain ⟨ev, hx⟩ : ∃ ev, l[k]? = some ev := ⟨_, List.getElem?_eq_getElem (by have := unhide hLL; omega)⟩
      have HLr : EV (· < B) w3 (.slice la LL lc) l := EV.keep (fun b hb => ⟨hb, (unhide W3).block b hb⟩) (unhide HL)
      obtain ⟨b, off, rfl, _, d0, d1, d2⟩ := HLr.at hx
      have a0 : w3.cell? ⟨qb, 0, none⟩ = some (.slice na' NL' ncap') := (unhide HA3).at rfl
      have a1 : w3.cell? ⟨qb, 1, none⟩ = some (.slice ta' TL' tcap') := (unhide HA3).at rfl
      have hrt := Rf.run_take (N : Int) l hx
      have hlow := hide ((unhide HI).low k.succ w3 S3 (unhide HI3).1)
      have CP := hide (step_any (A := fun b => ¬ S3 b) (Rf.runW (N : Int) (l.take k)) _ ev.kind ev.node ev.pick w3.drew (fun b hb q => by have : b < w3.heap.size := (unhide hlow b q).2; have hb' : w3.heap.size ≤ b := hb; omega) ((unhide HI3).2.2.below (below_drew w3)) (unhide HFit k) (by rw [show (⟨ev.kind, ev.node, ev.pick⟩ : Rf.Ev) = ev from rfl, ← hrt]; exact unhide HFit (k + 1)))
      rw [show (⟨ev.kind, ev.node, ev.pick⟩ : Rf.Ev) = ev from rfl, ← hrt] at CP
      have hk1 : IntKind.i64.wrap ((k : Int) + 1) = ((k + 1 : Nat) : Int) := wrap_i64 (by omega) (by omega)
      clear HLr HA hrt hx
      go_wp2_with fail
      go_region_with (go_at_call 21; (with_reducible refine (unhide CP).mono ?_); rintro e w4 ⟨v4, rfl, hv4, b4x⟩; have b4 : Below w3.heap.size w3 w4 := (below_drew w3).trans b4x; obtain ⟨nv4, tv4, rfl, ⟨nc4, n4, _⟩, ⟨tc4, t4, _⟩⟩ := id hv4; obtain ⟨na4, NL4, ncap4, rfl, _, _, _⟩ := SC.shp n4; obtain ⟨ta4, TL4, tcap4, rfl, _, _, _⟩ := SC.shp t4; have A4 := (unhide HA3).keep b4; clear a0 a1; have a0 := A4.at (j := 0) rfl; have a1 := A4.at (j := 1) rfl; have f0 := A4.thaw 0; have f1 := A4.thaw 1)
      all_goals
        have SB4 : SB w4 qb := ⟨_, _, _, _, _, _, _, A4⟩
        have hz : ((w4.setCell ⟨qb, 0, none⟩ (.slice na4 NL4 ncap4)).setCell ⟨qb, 1, none⟩ (.slice ta4 TL4 tcap4)).heap.size = w4.heap.size := by simp [World.setCell]
        have hs : ∀ b, b ≠ qb → ((w4.setCell ⟨qb, 0, none⟩ (.slice na4 NL4 ncap4)).setCell ⟨qb, 1, none⟩ (.slice ta4 TL4 tcap4)).heap[b]? = w4.heap[b]? := fun b hn => (Below.heap_setCell _ ⟨qb, 1, none⟩ _ b hn).trans (Below.heap_setCell _ ⟨qb, 0, none⟩ _ b hn)
        have Y0 : Hid (BK ((w4.setCell ⟨qb, 0, none⟩ (.slice na4 NL4 ncap4)).setCell ⟨qb, 1, none⟩ (.slice ta4 TL4 tcap4)) qb 29 #[.slice na4 NL4 ncap4, .slice ta4 TL4 tcap4]) := hide ((A4.set 0 _).set 1 _)
        have Y1 : Hid (∃ S, I (k + 1) ((w4.setCell ⟨qb, 0, none⟩ (.slice na4 NL4 ncap4)).setCell ⟨qb, 1, none⟩ (.slice ta4 TL4 tcap4)) S ∧ ¬ S qb ∧ Wv (fun b => ¬ S b) ((w4.setCell ⟨qb, 0, none⟩ (.slice na4 NL4 ncap4)).setCell ⟨qb, 1, none⟩ (.slice ta4 TL4 tcap4)) #[.slice na4 NL4 ncap4, .slice ta4 TL4 tcap4] (Rf.runW (N : Int) (l.take (k + 1)))) := hide ⟨S3, (unhide HI).mono (k + 1) w3 _ S3 (unhide HI3).1 (by rw [hz]; exact b4.size) (fun b hb => (hs b (fun e => (unhide HI3).2.1 (e ▸ hb))).trans (b4.block b (unhide hlow b hb).2)), (unhide HI3).2.1, wv_put SB4 hv4 _ _⟩
        have Y2 : Hid (Below B w ((w4.setCell ⟨qb, 0, none⟩ (.slice na4 NL4 ncap4)).setCell ⟨qb, 1, none⟩ (.slice ta4 TL4 tcap4))) := hide ((((unhide W3).trans (b4.mono (Nat.le_trans (unhide HB) (unhide W3).size))).setCell (unhide HQ) _).setCell (unhide HQ) _)
        clear SB4 hz hs hv4 b4 b4x n4 t4 A4 a0 a1 f0 f1 d0 d1 d2 CP
        go_wp2
        go_roundw
        case rel => exact ⟨k + 1, by omega, by go_num, _, _, _, _, _, _, Y0, Y1, Y2⟩
        case measure => simp [intOf]; omega

end Go.Proofs.Ytipneeeahndonaa.CL

namespace Go.Proofs.Ytipneeeahndonaa
open Go.RowKit

theorem TV.drewN {P : Nat → Prop} {w : World} {v : Value} {l : List Rf.Item} (h : TV P w v l) (n : Nat) : TV P (w.drewN n) v l := h
theorem NV.log {P : Nat → Prop} {w : World} {u0 u1 u2 u3 u4 u5 u6 u7 u8 u9 u10 : Value} {x : Rf.Node} (h : NV P w #[u0, u1, u2, u3, u4, u5, u6, u7, u8, u9, u10] x) : TV P w u4 x.log := by
  obtain ⟨lv, vv, nv, mv, e, h2, _⟩ := h
  simp only [Array.mk.injEq, List.cons.injEq, and_true] at e
  obtain ⟨_, _, _, _, rfl, _⟩ := e
  exact h2
theorem GV.items {P : Nat → Prop} {w : World} {u0 u1 u2 u3 u4 u5 u6 u7 u8 : Value} {m : Rf.Msg} (h : GV P w #[u0, u1, u2, u3, u4, u5, u6, u7, u8] m) : TV P w u7 m.items := by
  obtain ⟨iv, e, h2⟩ := h
  simp only [Array.mk.injEq, List.cons.injEq, and_true] at e
  obtain ⟨_, _, _, _, _, _, _, rfl, _⟩ := e
  exact h2
/-- a slice's first ones -/
theorem TV.first {P : Nat → Prop} {w : World} {a : Option Addr} {n cap : Nat} {l k : List Rf.Item} (h : TV P w (.slice a n cap) l) (hk : k <+: l) : TV P w (.slice a k.length cap) k := by
  obtain ⟨h1, a', cap', e, h3, h4, h5⟩ := h
  cases e
  obtain ⟨t, rfl⟩ := hk
  have hl : (k ++ t).length = k.length + t.length := List.length_append
  refine ⟨its_len k, a, cap, rfl, by omega, h4, fun hn => ?_⟩
  obtain ⟨b, off, e1, e2, e3⟩ := h5 (by omega)
  refine ⟨b, off, e1, e2, fun j u hj => e3 j u ?_⟩
  rw [its_app, List.getElem?_append_left (List.getElem?_eq_some_iff.1 hj).1]
  exact hj

end Go.Proofs.Ytipneeeahndonaa

namespace Go.Proofs.Ytipneeeahndonaa.R15
open Go.RowKit

set_option maxHeartbeats 2000000 in
theorem sameItems_any (l : List Rf.Item) (u v : Value) (w : World) (hu : Tv w u l) (hv : Tv w v l) : Calls Try.prog 13 #[u, v] w fun e w' => e = .returned (.bool true) ∧ ∃ m, w' = w.drewN m := by
  obtain ⟨a1, L1, c1, rfl, hL1, _, _⟩ := SC.shp hu
  obtain ⟨a2, L2, c2, rfl, hL2, _, _⟩ := SC.shp hv
  have e12 : L2 = L1 := (unhide hL2).trans (unhide hL1).symm
  subst e12
  have HU := hide hu
  have HV := hide hv
  clear hu hv hL1
  go_enter Try.func13, Try.ntmps13
  go_wp2_with fail
  go_loopw [13] (fun i wr => ∃ m : Nat, m ≤ L2 ∧ i = .int .i64 (m : Int) ∧ ∃ k, wr = w.drewN k) (fun i _ => L2 - (intOf i).toNat)
  case atStart => exact ⟨0, Nat.zero_le _, rfl, 0, rfl⟩
  case round =>
    obtain ⟨m, hm, rfl, k, rfl⟩ := hrel
    by_cases hlt : m < L2
    · have hi1 : (m : Int) < (L2 : Int) := by omega
      have hlt2 : m < l.length := by rw [← unhide hL2]; exact hlt
      obtain ⟨x, hx⟩ : ∃ x, l[m]? = some x := ⟨_, List.getElem?_eq_getElem hlt2⟩
      have hne : l ≠ [] := by intro e; rw [e] at hlt2; simp at hlt2
      obtain ⟨b1, o1, cap1, e, _⟩ := (unhide HU).ex hne
      have ea : a1 = some ⟨b1, o1, none⟩ := by cases e; rfl
      clear e
      subst ea
      obtain ⟨b2, o2, cap2, e, _⟩ := (unhide HV).ex hne
      have ea : a2 = some ⟨b2, o2, none⟩ := by cases e; rfl
      clear e
      subst ea
      obtain ⟨x0, x1⟩ := (unhide HU).at hx
      obtain ⟨y0, y1⟩ := (unhide HV).at hx
      clear hx hne hlt2
      go_wp2_with fail
      go_region
      all_goals
        go_wp2
        go_roundw
        case rel => exact ⟨m + 1, by omega, by go_num, _, rfl⟩
        case measure => simp [intOf]; omega
    · obtain rfl : m = L2 := by omega
      go_wp2
      go_ret
      exact ⟨rfl, _, rfl⟩

end Go.Proofs.Ytipneeeahndonaa.R15

namespace Go.Proofs.Ytipneeeahndonaa.CL
open Go.RowKit

theorem NsV.rowL {P : Nat → Prop} {w : World} {b off cap n : Nat} {l : List Rf.Node} (h : NsV P w (.slice (some ⟨b, off, none⟩) n cap) l) {i : Nat} {y : Rf.Node} (hy : l[i]? = some y) : ∃ (a1 : Option Addr) (n1 c1 : Nat) (a2 : Option Addr) (n2 c2 : Nat) (a3 : Option Addr) (n3 c3 : Nat) (a4 : Option Addr) (n4 c4 : Nat), NV P w #[.int .i64 y.id, .int .i64 y.n, .int .i64 y.term, .int .i64 y.vote, .slice a1 n1 c1, .int .i64 y.commit, .int .i64 y.role, .int .i64 y.boss, .slice a2 n2 c2, .slice a3 n3 c3, .slice a4 n4 c4] y ∧ n1 = y.log.length ∧ n1 ≤ c1 ∧ At11 w b (off + i * 11) (.int .i64 y.id) (.int .i64 y.n) (.int .i64 y.term) (.int .i64 y.vote) (.slice a1 n1 c1) (.int .i64 y.commit) (.int .i64 y.role) (.int .i64 y.boss) (.slice a2 n2 c2) (.slice a3 n3 c3) (.slice a4 n4 c4) := by
  obtain ⟨v, hN, hc⟩ := h.at hy
  obtain ⟨a1, n1, c1, a2, n2, c2, a3, n3, c3, a4, n4, c4, rfl⟩ := hN.cellsC
  obtain ⟨_, _, e, h3, _⟩ := SC.shape (show SC P w (.slice a1 n1 c1) 2 y.log.length (its y.log) from NV.log hN)
  obtain ⟨rfl, rfl, rfl⟩ := Value.slice.inj e
  exact ⟨a1, _, c1, a2, n2, c2, a3, n3, c3, a4, n4, c4, hN, rfl, h3, hc 0 _ rfl, hc 1 _ rfl, hc 2 _ rfl, hc 3 _ rfl, hc 4 _ rfl, hc 5 _ rfl, hc 6 _ rfl, hc 7 _ rfl, hc 8 _ rfl, hc 9 _ rfl, hc 10 _ rfl⟩
/-- nothing is kept -/
def KeepNone (_ : Nat) (_ : World) (S : Nat → Prop) : Prop := ∀ b, ¬ S b
theorem keepNone_held (B : Nat) : Held B KeepNone := ⟨fun _ _ _ _ h _ _ => h, fun _ _ _ h b hb => absurd hb (h b)⟩
def nodeV (y : Rf.Node) (a1 : Option Addr) (n1 c1 : Nat) (a2 : Option Addr) (n2 c2 : Nat) (a3 : Option Addr) (n3 c3 : Nat) (a4 : Option Addr) (n4 c4 : Nat) : Array Value := #[.int .i64 y.id, .int .i64 y.n, .int .i64 y.term, .int .i64 y.vote, .slice a1 n1 c1, .int .i64 y.commit, .int .i64 y.role, .int .i64 y.boss, .slice a2 n2 c2, .slice a3 n3 c3, .slice a4 n4 c4]

set_option maxHeartbeats 8000000 in
set_option maxRecDepth 100000 in
theorem logs_look (B N : Nat) (l : List Rf.Ev) (h1 : 1 ≤ N) (h5 : N ≤ 5) : Looks 12 #[] B KeepNone N l := by
  intro i w v S _ hB hv hI
  obtain ⟨g, hg⟩ := Rf.run_come (n := (N : Int)) (by omega) (by omega) (l.take i)
  have hlen := hg.1.len
  have HM : Hid (∀ (i j : Nat) (a b : Rf.Node), (Rf.runW (N : Int) (l.take i)).nodes[i]? = some a → True) := hide fun _ _ _ _ _ => trivial
  clear HM
  have HM := hide (fun (i' j : Nat) (a b : Rf.Node) (ha : (Rf.runW (N : Int) (l.take i)).nodes[i']? = some a) (hb : (Rf.runW (N : Int) (l.take i)).nodes[j]? = some b) (p : Nat) (x y : Rf.Item) (hx : a.log[p]? = some x) (hy : b.log[p]? = some y) (e : x.1 = y.1) => Rf.logs_match hg.1 ha hb hx hy e)
  have HR := hide (fun (i' : Nat) (a : Rf.Node) (ha : (Rf.runW (N : Int) (l.take i)).nodes[i']? = some a) => (hg.1.nd i' a ha).2.1.log)
  clear hg
  generalize Rf.runW (N : Int) (l.take i) = W at hv hlen HM HR
  obtain ⟨nv, tv, rfl, hN, ⟨tc, t1, _⟩⟩ := hv
  obtain ⟨ta, TL, tcap, rfl, hTL, _, _⟩ := SC.shp t1
  clear t1
  have hNs : NsV (· < w.heap.size) w nv W.nodes := hN.keep fun b hb => ⟨hb.1, rfl⟩
  clear hN
  have hlN : W.nodes.length = N := by omega
  obtain ⟨b, off, cap, rfl, _, hcap, _⟩ := hNs.ex (by intro e; rw [e] at hlN; simp at hlN; omega)
  rw [hlN] at hcap hNs ⊢
  have HN := hide hNs
  have HLN := hide hlN
  have HI := hide hI
  have HBB := hide hB
  clear hNs hlN hI hB hlen
  obtain ⟨U0, hU0⟩ : ∃ U0, U0 = w.alloc (.cells #[.slice (some ⟨b, off, none⟩) N cap, .slice ta TL tcap] 29) := ⟨_, rfl⟩
  have HB : Hid (Below w.heap.size w U0) := hide (by rw [hU0]; exact below_new _ _)
  have X0 : Hid (BK U0 w.heap.size 29 #[.slice (some ⟨b, off, none⟩) N cap, .slice ta TL tcap]) := hide (by rw [hU0]; exact BK.new _ _ _)
  have x0 : U0.cell? ⟨w.heap.size, 0, none⟩ = some (.slice (some ⟨b, off, none⟩) N cap) := (unhide X0).at rfl
  go_enter Try.func12, Try.ntmps12
  go_upto_region 1 with fail
  rw [← hU0]
  clear hU0
  go_wp2_with fail
  go_loopw [11] (fun i wr => ∃ k : Nat, k ≤ N ∧ i = .int .i64 (k : Int) ∧ Hid (Below U0.heap.size U0 wr)) (fun i _ => N - (intOf i).toNat)
  case atStart => exact ⟨0, Nat.zero_le _, rfl, hide (Below.refl _ _)⟩
  case round =>
    obtain ⟨k, hk, rfl, HW⟩ := hrel
    clear x0
    have HWw := hide (below_via (unhide HB) (unhide HW))
    by_cases hlt : k < N
    · have hi1 : (k : Int) < (N : Int) := by omega
      obtain ⟨x, hx⟩ : ∃ y, W.nodes[k]? = some y := ⟨_, List.getElem?_eq_getElem (by have := unhide HLN; omega)⟩
      obtain ⟨a1, n1, c1, a2, n2, c2, a3, n3, c3, a4, n4, c4, hNx, hn1, hc1, d0, d1, d2, d3, d4, d5, d6, d7, d8, d9, d10⟩ := NsV.rowL (NsV.keep (kept (unhide HWw)) (unhide HN)) hx
      obtain ⟨U1, hU1⟩ : ∃ U, U = wr.alloc (.cells #[.int .i64 x.id, .int .i64 x.n, .int .i64 x.term, .int .i64 x.vote, .slice a1 n1 c1, .int .i64 x.commit, .int .i64 x.role, .int .i64 x.boss, .slice a2 n2 c2, .slice a3 n3 c3, .slice a4 n4 c4] 33) := ⟨_, rfl⟩
      have bn : Below wr.heap.size wr U1 := by rw [hU1]; exact below_new _ _
      have XA : Hid (BK U1 wr.heap.size 33 #[.int .i64 x.id, .int .i64 x.n, .int .i64 x.term, .int .i64 x.vote, .slice a1 n1 c1, .int .i64 x.commit, .int .i64 x.role, .int .i64 x.boss, .slice a2 n2 c2, .slice a3 n3 c3, .slice a4 n4 c4]) := hide (by rw [hU1]; exact BK.new _ _ _)
      have TA : Hid (Tv U1 (.slice a1 n1 c1) x.log) := hide (TV.keep (kept bn) (NV.log hNx))
      have HW1 := hide (below_via (unhide HW) bn)
      have X1 := hide ((unhide X0).keep (unhide HW1))
      have HX := hide hx
      have HN1 := hide (And.intro hn1 (unhide HR k x hx))
      have hn60 : n1 ≤ 60 := by have := unhide HR k x hx; omega
      have x0 : U1.cell? ⟨w.heap.size, 0, none⟩ = some (.slice (some ⟨b, off, none⟩) N cap) := (unhide X1).at rfl
      clear hNx bn hx hn1
      go_upto_region 4 with fail
      rw [← hU1]
      clear hU1 d0 d1 d2 d3 d4 d5 d6 d7 d8 d9 d10
      generalize wr.heap.size = bA at XA ⊢
      go_wp2_with fail
      go_loopw [18] (fun i wr => ∃ j : Nat, j ≤ N ∧ i = .int .i64 (j : Int) ∧ Hid (Below U1.heap.size U1 wr)) (fun i _ => N - (intOf i).toNat)
      case atStart => exact ⟨0, Nat.zero_le _, rfl, hide (Below.refl _ _)⟩
      case round =>
        obtain ⟨j, hj, rfl, HV⟩ := hrel
        clear x0
        have HVw := hide (below_via (below_via (unhide HB) (unhide HW1)) (unhide HV))
        by_cases hlt2 : j < N
        · have hj1 : (j : Int) < (N : Int) := by omega
          obtain ⟨y, hy⟩ : ∃ y, W.nodes[j]? = some y := ⟨_, List.getElem?_eq_getElem (by have := unhide HLN; omega)⟩
          obtain ⟨e1, m1, f1, e2, m2, f2, e3, m3, f3, e4, m4, f4, hNy, hm1, hf1, d0, d1, d2, d3, d4, d5, d6, d7, d8, d9, d10⟩ := NsV.rowL (NsV.keep (kept (unhide HVw)) (unhide HN)) hy
          obtain ⟨U2, hU2⟩ : ∃ U, U = wr.alloc (.cells #[.int .i64 y.id, .int .i64 y.n, .int .i64 y.term, .int .i64 y.vote, .slice e1 m1 f1, .int .i64 y.commit, .int .i64 y.role, .int .i64 y.boss, .slice e2 m2 f2, .slice e3 m3 f3, .slice e4 m4 f4] 33) := ⟨_, rfl⟩
          have bn : Below wr.heap.size wr U2 := by rw [hU2]; exact below_new _ _
          have XB : Hid (BK U2 wr.heap.size 33 #[.int .i64 y.id, .int .i64 y.n, .int .i64 y.term, .int .i64 y.vote, .slice e1 m1 f1, .int .i64 y.commit, .int .i64 y.role, .int .i64 y.boss, .slice e2 m2 f2, .slice e3 m3 f3, .slice e4 m4 f4]) := hide (by rw [hU2]; exact BK.new _ _ _)
          have TB : Hid (Tv U2 (.slice e1 m1 f1) y.log) := hide (TV.keep (kept bn) (NV.log hNy))
          have HV1 := hide (below_via (unhide HV) bn)
          have XA2 := hide ((unhide XA).keep (unhide HV1))
          have TA2 : Hid (Tv U2 (.slice a1 n1 c1) x.log) := hide (TV.keep (kept (unhide HV1)) (unhide TA))
          have HY := hide hy
          have HM1 := hide hm1
          have q4 : U2.cell? ⟨bA, 4, none⟩ = some (.slice a1 n1 c1) := (unhide XA2).at rfl
          clear hNy bn hy hm1
          go_upto_region 7 with fail
          rw [← hU2]
          clear hU2 d0 d1 d2 d3 d4 d5 d6 d7 d8 d9 d10
          generalize wr.heap.size = bB at XB ⊢
          go_wp2_with fail
          go_loopw [7] (fun i wr => ∃ k : Nat, k ≤ n1 ∧ i = .int .i64 (k : Int) ∧ Hid (Below U2.heap.size U2 wr)) (fun i _ => (intOf i).toNat)
          case atStart => exact ⟨n1, Nat.le_refl _, rfl, hide (Below.refl _ _)⟩
          case round =>
            obtain ⟨t, ht, rfl, HZ⟩ := hrel
            clear q4
            have q4 : wr.cell? ⟨bA, 4, none⟩ = some (.slice a1 n1 c1) := ((unhide XA2).keep (unhide HZ)).at rfl
            have r4 : wr.cell? ⟨bB, 4, none⟩ = some (.slice e1 m1 f1) := ((unhide XB).keep (unhide HZ)).at rfl
            by_cases ht0 : t = 0
            · subst ht0
              have g0 : ¬ (0 : Int) < ((0 : Nat) : Int) := by omega
              go_wp2
              go_roundw
              case rel => exact ⟨j + 1, by omega, by go_num, hide (below_via (unhide HV1) (unhide HZ))⟩
              case measure => simp [intOf]; omega
            · have g0 : (0 : Int) < (t : Int) := by omega
              have g0' : 0 < t := by omega
              have em : (t : Int) - 1 = ((t - 1 : Nat) : Int) := by omega
              have em2 : IntKind.i64.wrap ((t - 1 : Nat) : Int) = ((t - 1 : Nat) : Int) := wrap_i64 (by omega) (by omega)
              by_cases htm : t ≤ m1
              · have g1 : decide ((t : Int) ≤ (m1 : Int)) = true := decide_eq_true (by omega)
                have g1' : decide (t ≤ m1) = true := decide_eq_true htm
                obtain ⟨xi, hxi⟩ : ∃ xi, x.log[t - 1]? = some xi := ⟨_, List.getElem?_eq_getElem (by have := (unhide HN1).1; omega)⟩
                obtain ⟨yi, hyi⟩ : ∃ yi, y.log[t - 1]? = some yi := ⟨_, List.getElem?_eq_getElem (by have := unhide HM1; omega)⟩
                have TAr : Tv wr (.slice a1 n1 c1) x.log := TV.keep (kept (unhide HZ)) (unhide TA2)
                have TBr : Tv wr (.slice e1 m1 f1) y.log := TV.keep (kept (unhide HZ)) (unhide TB)
                obtain ⟨xb, xo, xc, ex, _, _, _⟩ := TAr.ex (by intro e; rw [e] at hxi; simp at hxi)
                obtain rfl : a1 = some ⟨xb, xo, none⟩ := (Value.slice.inj ex).1
                obtain ⟨yb, yo, yc, ey, _, _, _⟩ := TBr.ex (by intro e; rw [e] at hyi; simp at hyi)
                obtain rfl : e1 = some ⟨yb, yo, none⟩ := (Value.slice.inj ey).1
                obtain ⟨s0, _⟩ := TAr.at hxi
                obtain ⟨u0, _⟩ := TBr.at hyi
                have l1 : ((t - 1 : Nat) : Int) < (n1 : Int) := by omega
                have l2 : ((t - 1 : Nat) : Int) < (m1 : Int) := by omega
                have l1' : t - 1 < n1 := by omega
                have l2' : t - 1 < m1 := by omega
                by_cases hxy : xi.1 = yi.1
                · have g2 : (xi.1 == yi.1) = true := by simpa using hxy
                  have hmatch := unhide HM k j x y (unhide HX) (unhide HY) (t - 1) xi yi hxi hyi hxy
                  rw [show t - 1 + 1 = t by omega] at hmatch
                  have lx : t ≤ x.log.length := by have := (unhide HN1).1; omega
                  have ly : t ≤ y.log.length := by have := unhide HM1; omega
                  have TX1 : Hid (Tv wr (.slice (some ⟨xb, xo, none⟩) t c1) (x.log.take t)) := hide (by
                    have := TAr.first (List.take_prefix t x.log)
                    rwa [List.length_take, Nat.min_eq_left lx] at this)
                  have TY1 : Hid (Tv wr (.slice (some ⟨yb, yo, none⟩) t f1) (x.log.take t)) := hide (by
                    have := TBr.first (List.take_prefix t y.log)
                    rwa [List.length_take, Nat.min_eq_left ly, ← hmatch] at this)
                  have p1 : t ≤ c1 := by omega
                  have p2 : t ≤ f1 := by omega
                  have p3 : (t : Int) ≤ (c1 : Int) := by omega
                  have p4 : (t : Int) ≤ (f1 : Int) := by omega
                  clear hxi hyi TAr TBr ex ey hmatch hxy
                  go_wp2_with fail
                  go_quiet (fail)
                  have q4' : (wr.drewN nq).cell? ⟨bA, 4, none⟩ = some (.slice (some ⟨xb, xo, none⟩) n1 c1) := q4
                  have r4' : (wr.drewN nq).cell? ⟨bB, 4, none⟩ = some (.slice (some ⟨yb, yo, none⟩) m1 f1) := r4
                  have TX2 : Hid (Tv (wr.drewN nq) (.slice (some ⟨xb, xo, none⟩) t c1) (x.log.take t)) := hide (TV.drewN (unhide TX1) nq)
                  have TY2 : Hid (Tv (wr.drewN nq) (.slice (some ⟨yb, yo, none⟩) t f1) (x.log.take t)) := hide (TV.drewN (unhide TY1) nq)
                  have BZ := hide (below_drewN (below_via (unhide HV1) (unhide HZ)) nq)
                  clear q4 r4 s0 u0
                  generalize wr.drewN nq = wq at q4' r4' TX2 TY2 BZ ⊢
                  go_wp2_with fail
                  go_quiet ((go_at_call 13; exact Calls.quiet_of (R15.sameItems_any (x.log.take t) _ _ _ (TV.drewN (unhide TX2) _) (TV.drewN (unhide TY2) _))))
                  go_wp2
                  go_roundw
                  case rel => exact ⟨j + 1, by omega, by go_num, hide (below_drewN (unhide BZ) _)⟩
                  case measure => simp [intOf]; omega
                · have g2 : (xi.1 == yi.1) = false := by simpa using hxy
                  clear hxi hyi TAr TBr ex ey hxy
                  go_wp2_with fail
                  go_quiet (fail)
                  go_wp2
                  go_roundw
                  case rel => exact ⟨t - 1, by omega, by go_num, hide (below_drewN (unhide HZ) _)⟩
                  case measure => simp [intOf]; omega
              · have g1 : decide ((t : Int) ≤ (m1 : Int)) = false := decide_eq_false (by omega)
                have g1' : decide (t ≤ m1) = false := decide_eq_false htm
                go_wp2_with fail
                go_quiet (fail)
                go_wp2
                go_roundw
                case rel => exact ⟨t - 1, by omega, by go_num, hide (below_drewN (unhide HZ) _)⟩
                case measure => simp [intOf]; omega
        · obtain rfl : j = N := by omega
          have hjj : ¬ (j : Int) < (j : Int) := by omega
          go_wp2
          go_roundw
          case rel => exact ⟨k + 1, by omega, by go_num, hide (below_via (unhide HW1) (unhide HV))⟩
          case measure => simp [intOf]; omega
    · obtain rfl : k = N := by omega
      have hkk : ¬ (k : Int) < (k : Int) := by omega
      go_wp2
      go_ret
      exact ⟨rfl, (unhide HWw).mono (unhide HBB), S, unhide HI, fun b hb hs => ⟨hs, (unhide HWw).block b hb⟩⟩

end Go.Proofs.Ytipneeeahndonaa.CL

namespace Go.Proofs.Ytipneeeahndonaa.CL
open Go.RowKit

set_option maxHeartbeats 4000000 in
set_option maxRecDepth 100000 in
theorem logs_walk16 (n : Int) (lv : Value) (l : List Rf.Ev) (w : World) (hl : Ev' w lv l) :
    Calls Try.prog 4 #[.int .i64 n, lv] w fun e w' => e = .returned (.bool true) ∧ Below w.heap.size w w' := by
  have HL := hide hl
  obtain ⟨la, LL, lc, rfl, _, _, _⟩ := SC.shp hl
  clear hl
  have CA := hide (alive_any w)
  go_enter Try.func4, Try.ntmps4
  go_wp2_with fail
  refine (unhide CA).mono ?_
  rintro e w1 ⟨rfl, b1⟩
  have B1 := hide b1
  by_cases hgo : 1 ≤ n ∧ n ≤ 5 ∧ l.length ≤ 300
  · obtain ⟨N, rfl⟩ : ∃ N : Nat, n = (N : Int) := ⟨n.toNat, by omega⟩
    have CT := hide (through_ClusterLogs w.heap.size N (.slice la LL lc) l KeepNone (fun _ => False) w1 (EV.keep (fun b hb => ⟨hb, (unhide B1).block b hb⟩) (unhide HL)) (by omega) (by omega) hgo.2.2 (unhide B1).size (keepNone_held _) (fun _ h => h) (logs_look _ N l (by omega) (by omega)))
    clear b1 hgo CA
    go_wp2_with fail
    refine (unhide CT).mono ?_
    rintro e w2 ⟨rfl, b2⟩
    have BE := hide ((unhide B1).trans b2)
    clear b2 CT
    go_wp2
    go_ret
    exact ⟨rfl, unhide BE⟩
  · have CT := hide (through_ClusterLogs_no n (.slice la LL lc) l w1 (EV.keep (kept (unhide B1)) (unhide HL)) hgo)
    clear b1 hgo CA
    go_wp2_with fail
    refine (unhide CT).mono ?_
    rintro e w2 ⟨rfl, b2⟩
    have BE := hide (below_via (unhide B1) b2)
    clear b2 CT
    go_wp2
    go_ret
    exact ⟨rfl, unhide BE⟩

end Go.Proofs.Ytipneeeahndonaa.CL

namespace Go.Proofs.Ytipneeeahndonaa.clusterLogsDone
open Go.ChangeShapes Go.WideShapes Go.ChangeAt Go.RowKit Go.Joins
open Go.Proofs.Ytipneeeahndonaa Go.Proofs.Ytipneeeahndonaa.CL

theorem own : ownKnob Try.prog.godebug = none := by kernel_rfl

set_option maxRecDepth 100000 in
theorem lifted (os : Os) (started : os.Started) (H : Type) (enc : TypeId × Value → H) :
    ReturnsInHanded {} Try.checked os 4 .any (Rows.clusterLogsSpec.pre6 enc Try.prog Try.f4 Rows.clusterLogsRow.domain false) (Rows.clusterLogsSpec.post enc Try.prog Try.f4 false true false false) := by
  refine returnsInHanded_of_change (C := Try.checked) own started (by kernel_rfl) Try.func4
    (ChangeSpec.witness6 (enc := enc) (C := Try.checked) false ⟨#[], #[.int .i64 0, .slice none 0 0], []⟩ 8 (by kernel_rfl) (by kernel_rfl) (by kernel_rfl) (by kernel_rfl)) ?_
  intro W base args ds gs before hval0 hW _ _
  have hval : ∀ (j : Nat) t v, Try.f4.params[j]? = some t → args[j]? = some v → Value.okWide Try.prog W .any base t v := hval0
  have hW' := hW
  obtain ⟨p, q, hA0, hV, rfl, hfz, hnd⟩ := hW
  have hA : DataW.TrodAll enc Try.prog W 0 (fun _ => true) true Try.f4.params.toList args.toList ds p := hA0
  rw [Try.params4] at hA hval
  obtain ⟨v0, vs0, d0, ds0, p0, q0, hargs, rfl, rfl, h0, r0⟩ := trodAll_cons hA
  obtain ⟨v1, vs1, d1, ds1, p1, q1, rfl, rfl, rfl, h1, r1⟩ := trodAll_cons r0
  obtain ⟨rfl, rfl, rfl⟩ := trodAll_nil r1
  obtain rfl : args = #[v0, v1] := by cases args; simp_all
  obtain ⟨rfl, rfl⟩ := trodVars_none hV
  simp only [List.append_nil] at hW'
  have hlt := fun x hx => hW'.lt x hx
  simp only [List.mem_append] at hlt
  have l0 : ∀ x ∈ p0, x.block < W.heap.size := fun x hx => by simpa using hlt x (by simp [hx])
  have k0 := h0
  obtain ⟨t0, rfl⟩ := okWide_int Try.underlying3 (hval 0 3 v0 rfl rfl)
  obtain ⟨f0, hf0⟩ := h0
  obtain ⟨z0, e0, _⟩ := DataW.trod_int Try.underlying3 hf0
  simp [Value.cells] at e0
  subst e0
  have l1 : ∀ x ∈ p1, x.block < W.heap.size := fun x hx => by simpa using hlt x (by simp [hx])
  have k1 := h1
  obtain ⟨t1, m1⟩ := events_value (hval 1 22 v1 rfl rfl) h1
  clear hA0 hval0 hlt
  refine (logs_walk16 t0 v1 t1 W m1 ).mono fun e W' ⟨he, bel⟩ => ?_
  subst he
  exact ⟨_, rfl, _, _, _, [], _, [], hW', trodAll_mk1 (shut_bool Try.underlying4 _), (trodAll_cons_mk (Below.trod laidOut16 (by kernel_rfl) (of_decide_eq_true (by kernel_rfl)) k0 bel l0) (trodAll_cons_mk (Below.trod laidOut16 (by kernel_rfl) (of_decide_eq_true (by kernel_rfl)) k1 bel l1) trodAll_mk0)), rfl, bel.frame _, fun h => by cases h⟩

theorem over : Rows.clusterLogsRow.holds Try.pinned (OpenSpec.ofChange Rows.clusterLogsSpec) :=
  OpenClaim.holds_of_wide 4 Try.f4 rfl rfl rfl rfl rfl rfl rfl ⟨rfl, rfl, rfl, rfl, rfl⟩ rfl rfl rfl rfl rfl (by kernel_rfl) Try.func4 (by kernel_rfl)
    (of_decide_eq_true (by kernel_rfl)) (by unfold Func.isWrapper; first | (rw [if_pos (by decide +kernel)]; kernel_rfl) | (rw [if_neg (by decide +kernel)]; exact ⟨rfl, rfl⟩))
    (fun os started H enc _ => lifted os started H enc)
end Go.Proofs.Ytipneeeahndonaa.clusterLogsDone
namespace Go.Proofs.Ytipneeeahndonaa
theorem clusterLogs_holds : Rows.ClusterLogsSaid := clusterLogsDone.over
end Go.Proofs.Ytipneeeahndonaa
