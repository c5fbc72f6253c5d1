/- Items that one node ever counted as sure are those that each other one ever does, place by place; restarts, too, for every number of nodes and every row of events; no conditions. -/
import Derived.Test.YtipneeeahndonaaCRG
import Derived.Test.YtipneeeahndonaaMC
import Derived.Deep.QuietTactic
import Derived.BigQuiet
import Derived.Test.YtipneeeahndonaaRows
import Derived.ProofKit
import Derived.OpenShut
import Derived.ChangeOld
import Derived.Lib.SmallJoins
import Derived.Carry
namespace Go.Proofs.Ytipneeeahndonaa.CL
open Go.RowKit

set_option maxHeartbeats 4000000 in
set_option maxRecDepth 100000 in
theorem through_ClusterSure_no (n : Int) (lv : Value) (l : List Rf.Ev) (c0 : Nat) (w : World) (hl : Ev' w lv l) (hno : ¬ (1 ≤ n ∧ n ≤ 5 ∧ l.length ≤ 300)) :
    Calls Try.prog 10 #[.int .i64 n, lv, .func (.func 14) #[] #[.pointer (some ⟨c0, 0, none⟩)]] w fun e w' => e = .returned (.bool true) ∧ Below w.heap.size w w' := by
  obtain ⟨la, LL, lc, rfl, hLL, hlc, _⟩ := SC.shp hl
  clear hl
  by_cases h15 : 1 ≤ n ∧ n ≤ 5
  · have h3 : (300 : Int) < (LL : Int) := by have := unhide hLL; omega
    obtain ⟨N, rfl⟩ : ∃ N : Nat, n = (N : Int) := ⟨n.toNat, by omega⟩
    have CS := hide (start_good (A := fun _ => True) raft_rc N w (fun _ _ => trivial) (by omega) (by omega))
    clear hno h15
    go_enter Try.func10, Try.ntmps10
    go_wp2_with fail
    refine (unhide CS).mono ?_
    rintro e w1 ⟨v1, rfl, hv1, b1⟩
    obtain ⟨nv1, tv1, rfl, ⟨nc1, n1, _⟩, ⟨tc1, t1, _⟩⟩ := hv1
    obtain ⟨na, NL, ncap, rfl, _, _, _⟩ := SC.shp n1
    obtain ⟨ta, TL, tcap, rfl, _, _, _⟩ := SC.shp t1
    have BE := hide (below_via b1 (below_new w1 (.cells #[.slice na NL ncap, .slice ta TL tcap] 29)))
    clear n1 t1 b1 CS
    go_wp2
    go_ret
    exact ⟨rfl, unhide BE⟩
  · have CS := hide (start_bad n w h15)
    clear hno h15
    go_enter Try.func10, Try.ntmps10
    go_wp2_with fail
    refine (unhide CS).mono ?_
    rintro e w1 ⟨rfl, b1⟩
    have BE := hide (below_via b1 (below_new w1 (.cells #[.slice none 0 0, .slice none 0 0] 29)))
    clear b1 CS
    go_wp2
    go_ret
    exact ⟨rfl, unhide BE⟩

set_option maxHeartbeats 4000000 in
set_option maxRecDepth 100000 in
theorem through_ClusterSure (B N : Nat) (lv : Value) (l : List Rf.Ev) (c0 : Nat) (I : Nat → World → (Nat → Prop) → Prop) (S : Nat → Prop) (w : World) (hl : EV (· < B) w lv l) (h1 : 1 ≤ N) (h5 : N ≤ 5) (h300 : l.length ≤ 300) (hB : B ≤ w.heap.size) (hI : Held B I) (h0 : I 0 w S) (hk : Looks 14 #[.pointer (some ⟨c0, 0, none⟩)] B I N l) :
    Calls Try.prog 10 #[.int .i64 (N : Int), lv, .func (.func 14) #[] #[.pointer (some ⟨c0, 0, none⟩)]] w fun e w' => e = .returned (.bool true) ∧ Below B w w' := by
  have HL := hide hl
  obtain ⟨la, LL, lc, rfl, hLL, hlc, _⟩ := SC.shp hl
  clear hl
  have HI := hide hI
  have HK := hide hk
  have HB := hide hB
  have HS0 := hide h0
  have HFit : Hid (∀ k, FitW (Rf.runW (N : Int) (l.take k))) := hide (fun k => by
    obtain ⟨g, hg⟩ := Rf.run_come (n := (N : Int)) (by omega) (by omega) (l.take k)
    exact FitW.of hg (by omega))
  have CS := hide (start_good (A := fun b => ¬ S b) raft_rc N w (fun b hb q => by have := (hI.low 0 w S h0 b q).2; omega) h1 h5)
  have h3' : ¬ (300 : Int) < (LL : Int) := by have := unhide hLL; omega
  have hL300 : LL ≤ 300 := by have := unhide hLL; omega
  clear hI hk hB h0
  go_enter Try.func10, Try.ntmps10
  go_wp2_with fail
  refine (unhide CS).mono ?_
  rintro e w1 ⟨v1, rfl, hv1, b1⟩
  obtain ⟨nv1, tv1, rfl, ⟨nc1, n1, _⟩, ⟨tc1, t1, _⟩⟩ := id hv1
  obtain ⟨na, NL, ncap, rfl, _, _, _⟩ := SC.shp n1
  obtain ⟨ta, TL, tcap, rfl, _, _, _⟩ := SC.shp t1
  obtain ⟨w2, hw2⟩ : ∃ w2, w2 = w1.alloc (.cells #[.slice na NL ncap, .slice ta TL tcap] 29) := ⟨_, rfl⟩
  have b2 : Below w1.heap.size w1 w2 := by rw [hw2]; exact below_new _ _
  have A0 : Hid (BK w2 w1.heap.size 29 #[.slice na NL ncap, .slice ta TL tcap]) := hide (by rw [hw2]; exact BK.new _ _ _)
  have b12 := below_via b1 b2
  have HV2 : Hid (∃ S, I 0 w2 S ∧ ¬ S w1.heap.size ∧ Wv (fun b => ¬ S b) w2 #[.slice na NL ncap, .slice ta TL tcap] (Rf.runW (N : Int) (l.take 0))) := hide (by
    have hlow := (unhide HI).low 0 w S (unhide HS0)
    refine ⟨S, (unhide HI).mono 0 w w2 S (unhide HS0) b12.size (fun b hb => b12.block b (hlow b hb).2), fun q => ?_, ?_⟩
    · have := (hlow _ q).2; have := b1.size; omega
    · rw [show Rf.runW (N : Int) (l.take 0) = Rf.startW N by simp [Rf.runW]]
      exact hv1.below b2)
  have HQ : Hid (B ≤ w1.heap.size) := hide (Nat.le_trans (unhide HB) b1.size)
  have B2 := hide (b12.mono (unhide HB))
  clear n1 t1 hv1 b1 b2 b12 CS HS0
  go_upto_region 2 with fail
  rw [← hw2]
  clear hw2
  generalize w1.heap.size = qb at A0 HV2 HQ ⊢
  go_wp2_with fail
  go_loopw [9] (fun i wr => ∃ k : Nat, k ≤ LL ∧ i = .int .i64 (k : Int) ∧ ∃ na NL ncap ta TL tcap, Hid (BK wr qb 29 #[.slice na NL ncap, .slice ta TL tcap]) ∧ Hid (∃ S, I k wr S ∧ ¬ S qb ∧ Wv (fun b => ¬ S b) wr #[.slice na NL ncap, .slice ta TL tcap] (Rf.runW (N : Int) (l.take k))) ∧ Hid (Below B w wr)) (fun i _ => LL - (intOf i).toNat)
  case atStart => exact ⟨0, Nat.zero_le _, rfl, _, _, _, _, _, _, A0, HV2, B2⟩
  case round =>
    obtain ⟨k, hk, rfl, na', NL', ncap', ta', TL', tcap', HA, HV, HW⟩ := hrel
    obtain ⟨S1, i1, s1, hv⟩ := unhide HV
    have a0 : wr.cell? ⟨qb, 0, none⟩ = some (.slice na' NL' ncap') := (unhide HA).at rfl
    have a1 : wr.cell? ⟨qb, 1, none⟩ = some (.slice ta' TL' tcap') := (unhide HA).at rfl
    have CL := hide (unhide HK k wr _ S1 (by have := unhide hLL; omega) (Nat.le_trans (unhide HB) (unhide HW).size) hv i1)
    have HV1 := hide hv
    have QL := hide (And.intro (unhide HA).low s1)
    clear hv i1 s1 HV
    go_wp2_with fail
    refine (unhide CL).mono ?_
    rintro e w3 ⟨rfl, b3, S3, i3, k3⟩
    have HA3 := hide (show BK w3 qb 29 #[.slice na' NL' ncap', .slice ta' TL' tcap'] from (k3 qb (unhide QL).1 (unhide QL).2).2.trans (unhide HA))
    have hq3 := (k3 qb (unhide QL).1 (unhide QL).2).1
    have hv3 : Wv (fun b => ¬ S3 b) w3 #[.slice na' NL' ncap', .slice ta' TL' tcap'] (Rf.runW (N : Int) (l.take k)) := WV.keep (fun b hb => ⟨⟨Nat.lt_of_lt_of_le hb.1 b3.size, (k3 b hb.1 hb.2).1⟩, (k3 b hb.1 hb.2).2⟩) (unhide HV1)
    have W3 := hide ((unhide HW).trans b3)
    have HI3 := hide (And.intro i3 (And.intro hq3 hv3))
    clear b3 i3 k3 hq3 hv3 a0 a1 CL HV1 QL
    by_cases hkl : k = LL
    · subst hkl
      clear HA HA3
      go_wp2
      go_ret
      exact ⟨rfl, unhide W3⟩
    · have hne : ((k : Int) == (LL : Int)) = false := by rw [beq_eq_false_iff_ne]; omega
      have hlt : k < LL := by omega
      have hlt' : (k : Int) < (LL : Int) := by omega
      obtain ⟨ev, hx⟩ : ∃ ev, l[k]? = some ev := ⟨_, List.getElem?_eq_getElem (by have := unhide hLL; omega)⟩
      have HLr : EV (· < B) w3 (.slice la LL lc) l := EV.keep (fun b hb => ⟨hb, (unhide W3).block b hb⟩) (unhide HL)
      obtain ⟨b, off, rfl, _, d0, d1, d2⟩ := HLr.at hx
      have a0 : w3.cell? ⟨qb, 0, none⟩ = some (.slice na' NL' ncap') := (unhide HA3).at rfl
      have a1 : w3.cell? ⟨qb, 1, none⟩ = some (.slice ta' TL' tcap') := (unhide HA3).at rfl
      have hrt := Rf.run_take (N : Int) l hx
      have hlow := hide ((unhide HI).low k.succ w3 S3 (unhide HI3).1)
      have CP := hide (step_any (A := fun b => ¬ S3 b) (Rf.runW (N : Int) (l.take k)) _ ev.kind ev.node ev.pick w3.drew (fun b hb q => by have : b < w3.heap.size := (unhide hlow b q).2; have hb' : w3.heap.size ≤ b := hb; omega) ((unhide HI3).2.2.below (below_drew w3)) (unhide HFit k) (by rw [show (⟨ev.kind, ev.node, ev.pick⟩ : Rf.Ev) = ev from rfl, ← hrt]; exact unhide HFit (k + 1)))
      rw [show (⟨ev.kind, ev.node, ev.pick⟩ : Rf.Ev) = ev from rfl, ← hrt] at CP
      have hk1 : IntKind.i64.wrap ((k : Int) + 1) = ((k + 1 : Nat) : Int) := wrap_i64 (by omega) (by omega)
      clear HLr HA hrt hx
      go_wp2_with fail
      go_region_with (go_at_call 21; (with_reducible refine (unhide CP).mono ?_); rintro e w4 ⟨v4, rfl, hv4, b4x⟩; have b4 : Below w3.heap.size w3 w4 := (below_drew w3).trans b4x; obtain ⟨nv4, tv4, rfl, ⟨nc4, n4, _⟩, ⟨tc4, t4, _⟩⟩ := id hv4; obtain ⟨na4, NL4, ncap4, rfl, _, _, _⟩ := SC.shp n4; obtain ⟨ta4, TL4, tcap4, rfl, _, _, _⟩ := SC.shp t4; have A4 := (unhide HA3).keep b4; clear a0 a1; have a0 := A4.at (j := 0) rfl; have a1 := A4.at (j := 1) rfl; have f0 := A4.thaw 0; have f1 := A4.thaw 1)
      all_goals
        have SB4 : SB w4 qb := ⟨_, _, _, _, _, _, _, A4⟩
        have hz : ((w4.setCell ⟨qb, 0, none⟩ (.slice na4 NL4 ncap4)).setCell ⟨qb, 1, none⟩ (.slice ta4 TL4 tcap4)).heap.size = w4.heap.size := by simp [World.setCell]
        have hs : ∀ b, b ≠ qb → ((w4.setCell ⟨qb, 0, none⟩ (.slice na4 NL4 ncap4)).setCell ⟨qb, 1, none⟩ (.slice ta4 TL4 tcap4)).heap[b]? = w4.heap[b]? := fun b hn => (Below.heap_setCell _ ⟨qb, 1, none⟩ _ b hn).trans (Below.heap_setCell _ ⟨qb, 0, none⟩ _ b hn)
        have Y0 : Hid (BK ((w4.setCell ⟨qb, 0, none⟩ (.slice na4 NL4 ncap4)).setCell ⟨qb, 1, none⟩ (.slice ta4 TL4 tcap4)) qb 29 #[.slice na4 NL4 ncap4, .slice ta4 TL4 tcap4]) := hide ((A4.set 0 _).set 1 _)
        have Y1 : Hid (∃ S, I (k + 1) ((w4.setCell ⟨qb, 0, none⟩ (.slice na4 NL4 ncap4)).setCell ⟨qb, 1, none⟩ (.slice ta4 TL4 tcap4)) S ∧ ¬ S qb ∧ Wv (fun b => ¬ S b) ((w4.setCell ⟨qb, 0, none⟩ (.slice na4 NL4 ncap4)).setCell ⟨qb, 1, none⟩ (.slice ta4 TL4 tcap4)) #[.slice na4 NL4 ncap4, .slice ta4 TL4 tcap4] (Rf.runW (N : Int) (l.take (k + 1)))) := hide ⟨S3, (unhide HI).mono (k + 1) w3 _ S3 (unhide HI3).1 (by rw [hz]; exact b4.size) (fun b hb => (hs b (fun e => (unhide HI3).2.1 (e ▸ hb))).trans (b4.block b (unhide hlow b hb).2)), (unhide HI3).2.1, wv_put SB4 hv4 _ _⟩
        have Y2 : Hid (Below B w ((w4.setCell ⟨qb, 0, none⟩ (.slice na4 NL4 ncap4)).setCell ⟨qb, 1, none⟩ (.slice ta4 TL4 tcap4))) := hide ((((unhide W3).trans (b4.mono (Nat.le_trans (unhide HB) (unhide W3).size))).setCell (unhide HQ) _).setCell (unhide HQ) _)
        clear SB4 hz hs hv4 b4 b4x n4 t4 A4 a0 a1 f0 f1 d0 d1 d2 CP
        go_wp2
        go_roundw
        case rel => exact ⟨k + 1, by omega, by go_num, _, _, _, _, _, _, Y0, Y1, Y2⟩
        case measure => simp [intOf]; omega

end Go.Proofs.Ytipneeeahndonaa.CL

namespace Go.Proofs.Ytipneeeahndonaa
open Go.RowKit

theorem TV.drewN {P : Nat → Prop} {w : World} {v : Value} {l : List Rf.Item} (h : TV P w v l) (n : Nat) : TV P (w.drewN n) v l := h
theorem NV.log {P : Nat → Prop} {w : World} {u0 u1 u2 u3 u4 u5 u6 u7 u8 u9 u10 : Value} {x : Rf.Node} (h : NV P w #[u0, u1, u2, u3, u4, u5, u6, u7, u8, u9, u10] x) : TV P w u4 x.log := by
  obtain ⟨lv, vv, nv, mv, e, h2, _⟩ := h
  simp only [Array.mk.injEq, List.cons.injEq, and_true] at e
  obtain ⟨_, _, _, _, rfl, _⟩ := e
  exact h2
theorem GV.items {P : Nat → Prop} {w : World} {u0 u1 u2 u3 u4 u5 u6 u7 u8 : Value} {m : Rf.Msg} (h : GV P w #[u0, u1, u2, u3, u4, u5, u6, u7, u8] m) : TV P w u7 m.items := by
  obtain ⟨iv, e, h2⟩ := h
  simp only [Array.mk.injEq, List.cons.injEq, and_true] at e
  obtain ⟨_, _, _, _, _, _, _, rfl, _⟩ := e
  exact h2
/-- a slice's first ones -/
theorem TV.first {P : Nat → Prop} {w : World} {a : Option Addr} {n cap : Nat} {l k : List Rf.Item} (h : TV P w (.slice a n cap) l) (hk : k <+: l) : TV P w (.slice a k.length cap) k := by
  obtain ⟨h1, a', cap', e, h3, h4, h5⟩ := h
  cases e
  obtain ⟨t, rfl⟩ := hk
  have hl : (k ++ t).length = k.length + t.length := List.length_append
  refine ⟨its_len k, a, cap, rfl, by omega, h4, fun hn => ?_⟩
  obtain ⟨b, off, e1, e2, e3⟩ := h5 (by omega)
  refine ⟨b, off, e1, e2, fun j u hj => e3 j u ?_⟩
  rw [its_app, List.getElem?_append_left (List.getElem?_eq_some_iff.1 hj).1]
  exact hj

end Go.Proofs.Ytipneeeahndonaa

namespace Go.Proofs.Ytipneeeahndonaa.R15
open Go.RowKit

set_option maxHeartbeats 2000000 in
theorem sameItems_any (l : List Rf.Item) (u v : Value) (w : World) (hu : Tv w u l) (hv : Tv w v l) : Calls Try.prog 13 #[u, v] w fun e w' => e = .returned (.bool true) ∧ ∃ m, w' = w.drewN m := by
  obtain ⟨a1, L1, c1, rfl, hL1, _, _⟩ := SC.shp hu
  obtain ⟨a2, L2, c2, rfl, hL2, _, _⟩ := SC.shp hv
  have e12 : L2 = L1 := (unhide hL2).trans (unhide hL1).symm
  subst e12
  have HU := hide hu
  have HV := hide hv
  clear hu hv hL1
  go_enter Try.func13, Try.ntmps13
  go_wp2_with fail
  go_loopw [13] (fun i wr => ∃ m : Nat, m ≤ L2 ∧ i = .int .i64 (m : Int) ∧ ∃ k, wr = w.drewN k) (fun i _ => L2 - (intOf i).toNat)
  case atStart => exact ⟨0, Nat.zero_le _, rfl, 0, rfl⟩
  case round =>
    obtain ⟨m, hm, rfl, k, rfl⟩ := hrel
    by_cases hlt : m < L2
    · have hi1 : (m : Int) < (L2 : Int) := by omega
      have hlt2 : m < l.length := by rw [← unhide hL2]; exact hlt
      obtain ⟨x, hx⟩ : ∃ x, l[m]? = some x := ⟨_, List.getElem?_eq_getElem hlt2⟩
      have hne : l ≠ [] := by intro e; rw [e] at hlt2; simp at hlt2
      obtain ⟨b1, o1, cap1, e, _⟩ := (unhide HU).ex hne
      have ea : a1 = some ⟨b1, o1, none⟩ := by cases e; rfl
      clear e
      subst ea
      obtain ⟨b2, o2, cap2, e, _⟩ := (unhide HV).ex hne
      have ea : a2 = some ⟨b2, o2, none⟩ := by cases e; rfl
      clear e
      subst ea
      obtain ⟨x0, x1⟩ := (unhide HU).at hx
      obtain ⟨y0, y1⟩ := (unhide HV).at hx
      clear hx hne hlt2
      go_wp2_with fail
      go_region
      all_goals
        go_wp2
        go_roundw
        case rel => exact ⟨m + 1, by omega, by go_num, _, rfl⟩
        case measure => simp [intOf]; omega
    · obtain rfl : m = L2 := by omega
      go_wp2
      go_ret
      exact ⟨rfl, _, rfl⟩

end Go.Proofs.Ytipneeeahndonaa.R15

namespace Go.Proofs.Ytipneeeahndonaa.CL
open Go.RowKit

/-- a row of items, kept in block c0 -/
structure SU (B c0 : Nat) (w : World) (sv : Value) (L : List Rf.Item) : Prop where
  blk : BK w c0 30 #[sv]
  row : w.ownsRow B 38 2 sv L.length (its L)
  ne : sv.ownBlock ≠ some c0
  low : B ≤ c0
/-- all else is as it was -/
def FrS (c0 : Nat) (w : World) (sv : Value) (w' : World) (sv' : Value) : Prop := ∀ b, b < w.heap.size → b ≠ c0 → sv.ownBlock ≠ some b → sv'.ownBlock ≠ some b ∧ w'.heap[b]? = w.heap[b]?
theorem FrS.refl (c0 : Nat) (w : World) (sv : Value) : FrS c0 w sv w sv := fun _ _ _ h => ⟨h, rfl⟩
theorem FrS.trans {c0 : Nat} {w w1 w2 : World} {sv sv1 sv2 : Value} (hs : w.heap.size ≤ w1.heap.size) (h : FrS c0 w sv w1 sv1) (k : FrS c0 w1 sv1 w2 sv2) : FrS c0 w sv w2 sv2 := fun b hb hc ho => ⟨(k b (Nat.lt_of_lt_of_le hb hs) hc (h b hb hc ho).1).1, (k b (Nat.lt_of_lt_of_le hb hs) hc (h b hb hc ho).1).2.trans (h b hb hc ho).2⟩
theorem FrS.below {c0 : Nat} {w w1 : World} {sv : Value} (hb : Below w.heap.size w w1) : FrS c0 w sv w1 sv := fun b h _ ho => ⟨ho, hb.block b h⟩
theorem SU.below {B c0 : Nat} {w w1 : World} {sv : Value} {L : List Rf.Item} (h : SU B c0 w sv L) (hb : Below w.heap.size w w1) : SU B c0 w1 sv L := ⟨h.blk.keep hb, own_below h.row hb, h.ne, h.low⟩
theorem SU.szB {B c0 : Nat} {w : World} {sv : Value} {L : List Rf.Item} (h : SU B c0 w sv L) : B ≤ w.heap.size := Nat.le_trans h.low (Nat.le_of_lt h.blk.low)
theorem SU.same {B c0 : Nat} {w w1 : World} {sv : Value} {L : List Rf.Item} (h : SU B c0 w sv L) (h0 : w1.heap[c0]? = w.heap[c0]?) (h1 : ∀ b, sv.ownBlock = some b → w1.heap[b]? = w.heap[b]?) : SU B c0 w1 sv L := ⟨h0.trans h.blk, own_same h.row h1, h.ne, h.low⟩
/-- another row takes its place -/
theorem SU.put {B c0 : Nat} {w w1 w3 : World} {sv sv' : Value} {L L' : List Rf.Item} (h : SU B c0 w sv L) (hb : Below w.heap.size w w1) (ho : w3.ownsRow B 38 2 sv' L'.length (its L')) (hg : w1.grownBy w3 sv.ownBlock) (hat : Upd w1.heap.size sv sv') :
    SU B c0 (w3.setCell ⟨c0, 0, none⟩ sv') sv' L' ∧ FrS c0 w sv (w3.setCell ⟨c0, 0, none⟩ sv') sv' ∧ Below B w (w3.setCell ⟨c0, 0, none⟩ sv') ∧ BK w3 c0 30 #[sv] := by
  have hu : Upd w.heap.size sv sv' := by
    rcases hat with e | e
    · exact .inl e
    · exact .inr fun k hk => Nat.le_trans hb.size (e k hk)
  have hne := ne_upd h.ne h.blk.low hu
  have hs := grown_set w3 ⟨c0, 0, none⟩ sv'
  have h1 := h.below hb
  have hb3 : BK w3 c0 30 #[sv] := (hg.block c0 h1.blk.low (fun e => h.ne e.symm)).trans h1.blk
  refine ⟨⟨hb3.set 0 sv', own_ne ho hs fun k hk e => hne (by cases e; exact hk), hne, h.low⟩, fun b hbl hc hoo => ?_, ?_, hb3⟩
  · have l1 := Nat.lt_of_lt_of_le hbl hb.size
    exact ⟨ne_upd hoo hbl hu, (hs.block b (Nat.lt_of_lt_of_le l1 hg.size) (fun e => hc (by cases e; rfl))).trans ((hg.block b l1 (fun e => hoo e.symm)).trans (hb.block b hbl))⟩
  · exact ((((hb.mono h.szB)).grown hg (Nat.le_trans h.szB hb.size) (fun k hk => (World.ownsRow.lt h.row k hk).1))).setCell h.low _
theorem item_block (W : World) (t : TypeId) (a b : Int) : ∀ j u, [Value.int .i64 a, .int .i64 b][j]? = some u → (W.alloc (.cells #[.int .i64 a, .int .i64 b] t)).cell? ((⟨W.heap.size, 0, none⟩ : Addr).add j) = some u := by
  intro j u h
  exact block_cells W t #[.int .i64 a, .int .i64 b] j u (by simpa using h)
theorem item_one (a b : Int) : ∀ u ∈ [Value.int .i64 a, .int .i64 b], u.oneCell' = true := by
  intro u hu
  simp at hu
  rcases hu with rfl | rfl <;> rfl
theorem its_more (l : List Rf.Item) (x : Rf.Item) : its (l ++ [x]) = its l ++ [.int .i64 x.1, .int .i64 x.2] := by simp [its]

end Go.Proofs.Ytipneeeahndonaa.CL
namespace Go.Proofs.Ytipneeeahndonaa.Rf

/-- what counts as sure behind so many of a node's items -/
def cur (log L : List Item) (i : Nat) : List Item := if i ≤ L.length then L else log.take i
theorem cur_len {log L : List Item} {i : Nat} (hi : i ≤ log.length) : (cur log L i).length = max i L.length := by
  unfold cur
  split
  · omega
  · rw [List.length_take]; omega
theorem cur_at {log L : List Item} {c i : Nat} (hc : c ≤ log.length) (h1 : c ≤ L.length → log.take c <+: L) (_h2 : L.length ≤ c → L <+: log.take c) (hi : i < c) : (cur log L (i + 1))[i]? = log[i]? := by
  unfold cur
  split
  · rename_i hl
    rcases Nat.lt_or_ge c L.length with q | q
    · obtain ⟨t, ht⟩ := h1 (by omega)
      rw [← ht, List.getElem?_append_left (by rw [List.length_take]; omega), List.getElem?_take_of_lt hi]
    · obtain ⟨t, ht⟩ := _h2 q
      have : (log.take c)[i]? = log[i]? := List.getElem?_take_of_lt hi
      rw [← this, ← ht, List.getElem?_append_left (by omega)]
  · rw [List.getElem?_take_of_lt (by omega)]
theorem cur_more {log L : List Item} {c i : Nat} (h2 : L.length ≤ c → L <+: log.take c) (hi : i < c) {x : Item} (hx : log[i]? = some x) (hl : L.length ≤ i) : cur log L (i + 1) = cur log L i ++ [x] := by
  have e1 : cur log L (i + 1) = log.take (i + 1) := by unfold cur; rw [if_neg (by omega)]
  have e2 : cur log L i = log.take i := by
    unfold cur
    split
    · have : L.length = i := by omega
      obtain ⟨t, ht⟩ := h2 (by omega)
      have h3 : (log.take c).take i = L := by rw [← ht, ← this, List.take_left]
      rw [List.take_take, Nat.min_eq_left (by omega)] at h3
      exact h3.symm
    · rfl
  rw [e1, e2]
  obtain ⟨q1, q2⟩ := List.getElem?_eq_some_iff.1 hx
  rw [← q2, List.take_append_getElem q1]
theorem cur_same {log L : List Item} {i : Nat} (hl : i < L.length) : cur log L (i + 1) = cur log L i := by
  unfold cur
  rw [if_pos (by omega), if_pos (by omega)]
theorem cur_sure {N : Int} {g : Gh} {T : Int} {x : Node} {L : List Item} (hL : SureS N g T L) (hx : SureS N g x.term (x.log.take x.commit.toNat)) : ∃ T', SureS N g T' (cur x.log L x.commit.toNat) := by
  unfold cur
  split
  · exact ⟨T, hL⟩
  · exact ⟨x.term, hx⟩

end Go.Proofs.Ytipneeeahndonaa.Rf

namespace Go.Proofs.Ytipneeeahndonaa.Rf

theorem come_next5 {N : Int} {l : List Ev} {i : Nat} {g : Gh} (h : Come N g (runW N (l.take i))) : ∃ g', More g g' ∧ Come N g' (runW N (l.take (i + 1))) := by
  cases hx : l[i]? with
  | some e =>
    rw [run_take N l hx]
    exact step_come h e
  | none =>
    have hl : l.length ≤ i := List.getElem?_eq_none_iff.1 hx
    rw [List.take_of_length_le hl] at h
    rw [List.take_of_length_le (by omega)]
    exact ⟨g, More.refl g, h⟩

end Go.Proofs.Ytipneeeahndonaa.Rf
namespace Go.Proofs.Ytipneeeahndonaa.CL
open Go.RowKit

/-- the row of what is sure is kept in two blocks -/
def KeepSure (B c0 : Nat) (N : Int) (l : List Rf.Ev) (i : Nat) (w : World) (S : Nat → Prop) : Prop :=
  ∃ sv L g T, (∀ b, S b ↔ b = c0 ∨ sv.ownBlock = some b) ∧ SU B c0 w sv L ∧ Rf.Come N g (Rf.runW N (l.take i)) ∧ Rf.SureS N g T L ∧ L.length ≤ 60
theorem keepSure_held (B c0 : Nat) (N : Int) (l : List Rf.Ev) : Held B (KeepSure B c0 N l) := by
  constructor
  · rintro i w w' S ⟨sv, L, g, T, h1, h2, h3⟩ hs hb
    exact ⟨sv, L, g, T, h1, h2.same (hb c0 ((h1 c0).2 (.inl rfl))) (fun b hk => hb b ((h1 b).2 (.inr hk))), h3⟩
  · rintro i w S ⟨sv, L, g, T, h1, h2, _⟩ b hb
    rcases (h1 b).1 hb with rfl | e
    · exact ⟨h2.low, h2.blk.low⟩
    · exact World.ownsRow.lt h2.row b e

set_option maxHeartbeats 8000000 in
set_option maxRecDepth 100000 in
theorem sure_look (B c0 N : Nat) (l : List Rf.Ev) (h1 : 1 ≤ N) (h5 : N ≤ 5) : Looks 14 #[.pointer (some ⟨c0, 0, none⟩)] B (KeepSure B c0 N l) N l := by
  rintro i w v S _ hB hv ⟨sv0, L0, g, T0, hS, hsu, hg, hL, hL60⟩
  have hlen := hg.1.len
  have HAg := hide (fun (S R : List Rf.Item) (T T' : Int) (hS : Rf.SureS N g T S) (hR : Rf.SureS N g T' R) (hle : S.length ≤ R.length) => Rf.sure_agree hg.1.G hS hR hle)
  have HNs := hide (fun (k : Nat) (x : Rf.Node) (hx : (Rf.runW (N : Int) (l.take i)).nodes[k]? = some x) => And.intro (Rf.node_sure hg.1 hx) (And.intro (hg.1.nd k x hx).2.1.commit (hg.1.nd k x hx).2.1.log))
  have HG := hide hg
  generalize Rf.runW (N : Int) (l.take i) = W at hv hlen HNs
  clear hg
  obtain ⟨nv, tv, rfl, hN, ⟨tc, t1, _⟩⟩ := hv
  obtain ⟨ta, TL, tcap, rfl, hTL, _, _⟩ := SC.shp t1
  clear t1
  have hNs : NsV (fun b => b < w.heap.size ∧ b ≠ c0 ∧ sv0.ownBlock ≠ some b) w nv W.nodes := hN.keep fun b hb => ⟨⟨hb.1, fun e => hb.2 ((hS b).2 (.inl e)), fun e => hb.2 ((hS b).2 (.inr e))⟩, rfl⟩
  clear hN
  have hlN : W.nodes.length = N := by omega
  obtain ⟨b, off, cap, rfl, _, hcap, _⟩ := hNs.ex (by intro e; rw [e] at hlN; simp at hlN; omega)
  rw [hlN] at hcap hNs ⊢
  have HN := hide hNs
  have HLN := hide hlN
  have HS := hide hS
  have HBB := hide hB
  clear hNs hlN hS hB hlen
  obtain ⟨U0, hU0⟩ : ∃ U0, U0 = w.alloc (.cells #[.slice (some ⟨b, off, none⟩) N cap, .slice ta TL tcap] 29) := ⟨_, rfl⟩
  have HB : Hid (Below w.heap.size w U0) := hide (by rw [hU0]; exact below_new _ _)
  have x0 : U0.cell? ⟨w.heap.size, 0, none⟩ = some (.slice (some ⟨b, off, none⟩) N cap) := by
    have : BK U0 w.heap.size 29 #[.slice (some ⟨b, off, none⟩) N cap, .slice ta TL tcap] := by rw [hU0]; exact BK.new _ _ _
    exact this.at rfl
  have Q0 := hide (hsu.below (unhide HB))
  have HL0 := hide (And.intro hL hL60)
  have HSZ := hide hsu.szB
  clear hsu hL hL60
  go_enter Try.func14, Try.ntmps14
  go_upto_region 1 with fail
  rw [← hU0]
  clear hU0
  go_wp2_with fail
  go_loopw [10] (fun i wr => ∃ k : Nat, k ≤ N ∧ i = .int .i64 (k : Int) ∧ ∃ sv L, Hid (SU B c0 wr sv L) ∧ Hid ((∃ T, Rf.SureS N g T L) ∧ L.length ≤ 60) ∧ Hid (FrS c0 w sv0 wr sv) ∧ Hid (Below B w wr)) (fun i _ => N - (intOf i).toNat)
  case atStart => exact ⟨0, Nat.zero_le _, rfl, sv0, L0, Q0, hide ⟨⟨T0, (unhide HL0).1⟩, (unhide HL0).2⟩, hide (FrS.below (unhide HB)), hide ((unhide HB).mono (unhide HSZ))⟩
  case round =>
    obtain ⟨k, hk, rfl, sv, L, HQ, HL, HF, HW⟩ := hrel
    clear x0
    by_cases hlt : k < N
    · have hi1 : (k : Int) < (N : Int) := by omega
      obtain ⟨x, hx⟩ : ∃ y, W.nodes[k]? = some y := ⟨_, List.getElem?_eq_getElem (by have := unhide HLN; omega)⟩
      obtain ⟨u, hNx, hat⟩ := (NsV.keep (Q := fun b => b < wr.heap.size ∧ b ≠ c0 ∧ sv.ownBlock ≠ some b) (fun b hb => ⟨⟨Nat.lt_of_lt_of_le hb.1 (unhide HW).size, hb.2.1, (unhide HF b hb.1 hb.2.1 hb.2.2).1⟩, (unhide HF b hb.1 hb.2.1 hb.2.2).2⟩) (unhide HN)).at hx
      obtain ⟨a1, n1, c1, a2, n2, c2, a3, n3, c3, a4, n4, c4, rfl⟩ := hNx.cellsC
      have d0 := hat 0 _ rfl
      have d1 := hat 1 _ rfl
      have d2 := hat 2 _ rfl
      have d3 := hat 3 _ rfl
      have d4 := hat 4 _ rfl
      have d5 := hat 5 _ rfl
      have d6 := hat 6 _ rfl
      have d7 := hat 7 _ rfl
      have d8 := hat 8 _ rfl
      have d9 := hat 9 _ rfl
      have d10 := hat 10 _ rfl
      rw [Nat.add_zero] at d0
      obtain ⟨U1, hU1⟩ : ∃ U, U = wr.alloc (.cells #[.int .i64 x.id, .int .i64 x.n, .int .i64 x.term, .int .i64 x.vote, .slice a1 n1 c1, .int .i64 x.commit, .int .i64 x.role, .int .i64 x.boss, .slice a2 n2 c2, .slice a3 n3 c3, .slice a4 n4 c4] 33) := ⟨_, rfl⟩
      have bn : Below wr.heap.size wr U1 := by rw [hU1]; exact below_new _ _
      have XA : Hid (BK U1 wr.heap.size 33 #[.int .i64 x.id, .int .i64 x.n, .int .i64 x.term, .int .i64 x.vote, .slice a1 n1 c1, .int .i64 x.commit, .int .i64 x.role, .int .i64 x.boss, .slice a2 n2 c2, .slice a3 n3 c3, .slice a4 n4 c4]) := hide (by rw [hU1]; exact BK.new _ _ _)
      have TA : Hid (TV (fun b => b < U1.heap.size ∧ b ≠ c0 ∧ sv.ownBlock ≠ some b) U1 (.slice a1 n1 c1) x.log) := hide (TV.keep (fun b hb => ⟨⟨Nat.lt_of_lt_of_le hb.1 bn.size, hb.2⟩, bn.block b hb.1⟩) (NV.log hNx))
      have FA : Hid (wr.heap.size < U1.heap.size ∧ wr.heap.size ≠ c0 ∧ sv.ownBlock ≠ some wr.heap.size) := hide ⟨(unhide XA).low, by have := (unhide HQ).blk.low; omega, fun e => by have := (World.ownsRow.lt (unhide HQ).row _ e).2; omega⟩
      have Q1 := hide ((unhide HQ).below bn)
      have F1 : Hid (FrS c0 w sv0 U1 sv) := hide (FrS.trans (unhide HW).size (unhide HF) (FrS.below bn))
      have W1 : Hid (Below B w U1) := hide ((unhide HW).trans (bn.mono (unhide HQ).szB))
      obtain ⟨hns, hcm, hlg⟩ := unhide HNs k x hx
      obtain ⟨C, hC⟩ : ∃ C : Nat, x.commit = (C : Int) := ⟨x.commit.toNat, by have := hcm.1; omega⟩
      have hCl : C ≤ x.log.length := by have := hcm.2; omega
      rw [hC, Int.toNat_natCast] at hns
      have HP : Hid ((C ≤ L.length → x.log.take C <+: L) ∧ (L.length ≤ C → L <+: x.log.take C)) := hide (by
        obtain ⟨⟨T, hT⟩, _⟩ := unhide HL
        have hl : (x.log.take C).length = C := by rw [List.length_take]; omega
        exact ⟨fun q => unhide HAg _ _ _ _ hns hT (by omega), fun q => unhide HAg _ _ _ _ hT hns (by omega)⟩)
      have HSu : Hid (∃ T, Rf.SureS N g T (Rf.cur x.log L C)) := hide (by
        obtain ⟨⟨T, hT⟩, _⟩ := unhide HL
        have h2 : Rf.SureS N g x.term (x.log.take x.commit.toNat) := by rw [hC, Int.toNat_natCast]; exact hns
        have := Rf.cur_sure hT h2
        rwa [hC, Int.toNat_natCast] at this)
      have eL1 : n1 = x.log.length := by
        obtain ⟨_, _, e, _⟩ := SC.shape (show SC _ U1 (.slice a1 n1 c1) 2 x.log.length (its x.log) from unhide TA)
        exact (Value.slice.inj e).2.1
      have HLl := hide (And.intro eL1 (And.intro hCl hlg))
      have hC60 : C ≤ 60 := by omega
      have r5 : U1.cell? ⟨wr.heap.size, 5, none⟩ = some (.int .i64 (C : Int)) := by rw [← hC]; exact (unhide XA).at rfl
      have HCc := hide hC
      clear hNx bn hat hx hns hcm hlg hCl eL1 hC
      go_upto_region 4 with fail
      rw [← hU1]
      clear hU1 d0 d1 d2 d3 d4 d5 d6 d7 d8 d9 d10
      generalize wr.heap.size = bA at XA FA r5 ⊢
      have XA' : Hid (BK U1 bA 33 #[.int .i64 x.id, .int .i64 x.n, .int .i64 x.term, .int .i64 x.vote, .slice a1 n1 c1, .int .i64 (C : Int), .int .i64 x.role, .int .i64 x.boss, .slice a2 n2 c2, .slice a3 n3 c3, .slice a4 n4 c4]) := hide (by rw [← unhide HCc]; exact unhide XA)
      clear XA HCc
      go_wp2_with fail
      go_loopw [6] (fun i wr => ∃ t : Nat, t ≤ C ∧ i = .int .i64 (t : Int) ∧ ∃ sw, Hid (SU B c0 wr sw (Rf.cur x.log L t)) ∧ Hid (FrS c0 U1 sv wr sw) ∧ Hid (Below B U1 wr)) (fun i _ => C - (intOf i).toNat)
      case atStart =>
        have e0 : Rf.cur x.log L 0 = L := by unfold Rf.cur; rw [if_pos (Nat.zero_le _)]
        exact ⟨0, Nat.zero_le _, rfl, sv, by rw [e0]; exact Q1, hide (FrS.refl _ _ _), hide (Below.refl _ _)⟩
      case round =>
        obtain ⟨t, ht, rfl, sw, HQ2, HF2, HW2⟩ := hrel
        clear r5
        have XA2 : BK wr bA 33 #[.int .i64 x.id, .int .i64 x.n, .int .i64 x.term, .int .i64 x.vote, .slice a1 n1 c1, .int .i64 (C : Int), .int .i64 x.role, .int .i64 x.boss, .slice a2 n2 c2, .slice a3 n3 c3, .slice a4 n4 c4] := (unhide HF2 bA (unhide FA).1 (unhide FA).2.1 (unhide FA).2.2).2.trans (unhide XA')
        have r5 : wr.cell? ⟨bA, 5, none⟩ = some (.int .i64 (C : Int)) := XA2.at rfl
        have r4 : wr.cell? ⟨bA, 4, none⟩ = some (.slice a1 n1 c1) := XA2.at rfl
        have HXA2 := hide XA2
        clear XA2
        by_cases htC : t < C
        · have hi2 : (t : Int) < (C : Int) := by omega
          obtain ⟨z, hz⟩ : ∃ z, x.log[t]? = some z := ⟨_, List.getElem?_eq_getElem (by have := (unhide HLl).2.1; omega)⟩
          have TAr : TV (fun b => b < wr.heap.size ∧ b ≠ c0 ∧ sw.ownBlock ≠ some b) wr (.slice a1 n1 c1) x.log := TV.keep (fun b hb => ⟨⟨Nat.lt_of_lt_of_le hb.1 (unhide HW2).size, hb.2.1, (unhide HF2 b hb.1 hb.2.1 hb.2.2).1⟩, (unhide HF2 b hb.1 hb.2.1 hb.2.2).2⟩) (unhide TA)
          obtain ⟨xb, xo, xc, ex, hxb, _, _⟩ := TAr.ex (by intro e; rw [e] at hz; simp at hz)
          obtain rfl : a1 = some ⟨xb, xo, none⟩ := (Value.slice.inj ex).1
          obtain ⟨s0, s1⟩ := TAr.at hz
          have HXB := hide hxb
          have l1 : (t : Int) < (n1 : Int) := by have := (unhide HLl).1; have := (unhide HLl).2.1; omega
          have l1' : t < n1 := by omega
          obtain ⟨sa, SL, sc, rfl, hSL, _, _⟩ := SC.shp (SC.own (unhide HQ2).row)
          have q0 : wr.cell? ⟨c0, 0, none⟩ = some (.slice sa SL sc) := (unhide HQ2).blk.at rfl
          have hSLm : Hid (SL = max t L.length) := hide ((unhide hSL).trans (Rf.cur_len (by have := (unhide HLl).2.1; omega)))
          have HZ := hide hz
          clear hz ex hxb
          by_cases htl : L.length ≤ t
          · have hSt : SL = t := by have := unhide hSLm; omega
            subst hSt
            have g1 : ((SL : Int) == (SL : Int)) = true := by simp
            have hmore := Rf.cur_more (c := C) (unhide HP).2 htC (unhide HZ) htl
            obtain ⟨i0, hi0, hz0, hz1, hz2⟩ := info_parts info_T
            have HI := hide (And.intro hi0 (And.intro hz0 (And.intro hz1 hz2)))
            clear hi0 hz0 hz1 hz2
            have HK : Hid (SL + 1 ≤ 61) := hide (by omega)
            have hlc : (Rf.cur x.log L SL).length = SL := (unhide hSL).symm
            have q0' : (wr.alloc (.cells #[.int .i64 z.1, .int .i64 z.2] 38)).cell? ⟨c0, 0, none⟩ = some (.slice sa SL sc) := ((unhide HQ2).blk.keep (below_new wr _)).at rfl
            go_upto_region 8 with fail
            go_region_law (refine step_append_own_c rfl _ _ 30 rfl B 38 i0 (.agg #[.int .i64 0, .int .i64 0]) 2 16 Try.underlying30 (unhide HI).1 (unhide HI).2.1 (unhide HI).2.2.1 (unhide HI).2.2.2 rfl (by decide) _ _ (its (Rf.cur x.log L SL)) rfl (by have o := (unhide HQ2).row; rw [hlc] at o; first | exact o.alloc _ | exact (World.ownsRow.drew o).alloc _ | exact World.ownsRow.drew (o.alloc _)) ⟨wr.heap.size, 0, none⟩ 1 1 [.int .i64 z.1, .int .i64 z.2] rfl rfl (item_block _ _ _ _) (item_one _ _) ?p1 ?p2 ?p3 ?_
                           case p1 => unfold maxLen; have := unhide HK; omega
                           case p2 => have := unhide HK; omega
                           case p3 => have := (unhide HQ2).szB; simp; omega
                           intro v3' w3 hown hgrow hat
                           obtain ⟨sa3, SL3, sc3, rfl, hSL3, _, _⟩ := SC.shp (SC.own hown)
                           have bnx : Below wr.heap.size wr (wr.alloc (.cells #[.int .i64 z.1, .int .i64 z.2] 38)).drew := (below_new _ _).drew
                           have hl2 : (Rf.cur x.log L (SL + 1)).length = SL + 1 := by rw [hmore, List.length_append, hlc]; rfl
                           have hrow : w3.ownsRow B 38 2 (.slice sa3 SL3 sc3) (Rf.cur x.log L (SL + 1)).length (its (Rf.cur x.log L (SL + 1))) := by rw [hl2, hmore, its_more]; exact hown
                           have hgr : (wr.alloc (.cells #[.int .i64 z.1, .int .i64 z.2] 38)).drew.grownBy w3 (Value.slice sa SL sc).ownBlock := ⟨hgrow.os, hgrow.tape, hgrow.output, hgrow.size, hgrow.block⟩
                           obtain ⟨p1, p2, p3, p4⟩ := (unhide HQ2).put bnx hrow hgr (Upd.at hat)
                           have j0 := p4.at (j := 0) rfl
                           have o0 := p4.thaw 0
                           have l3 := p4.low)
            all_goals
              have hXB := unhide HXB
              have hFb := (unhide HF2 bA (unhide FA).1 (unhide FA).2.1 (unhide FA).2.2).1
              have hbAl : bA < wr.heap.size := (unhide HXA2).low
              have XA3 := (p2 bA hbAl (unhide FA).2.1 hFb).2.trans (unhide HXA2)
              have TX3 : (w3.setCell ⟨c0, 0, none⟩ (.slice sa3 SL3 sc3)).heap[xb]? = wr.heap[xb]? := (p2 xb hXB.1 hXB.2.1 hXB.2.2).2
              have s0' := (World.cell?_of_block (w := wr) (w' := w3.setCell ⟨c0, 0, none⟩ (.slice sa3 SL3 sc3)) (a := ⟨xb, xo + SL * 2, none⟩) TX3).trans s0
              have s1' := (World.cell?_of_block (w := wr) (w' := w3.setCell ⟨c0, 0, none⟩ (.slice sa3 SL3 sc3)) (a := ⟨xb, xo + SL * 2 + 1, none⟩) TX3).trans s1
              have hat1 : (Rf.cur x.log L (SL + 1))[SL]? = some z := (Rf.cur_at (unhide HLl).2.1 (unhide HP).1 (unhide HP).2 htC).trans (unhide HZ)
              have TR : TV (fun b => b < (w3.setCell ⟨c0, 0, none⟩ (.slice sa3 SL3 sc3)).heap.size) (w3.setCell ⟨c0, 0, none⟩ (.slice sa3 SL3 sc3)) (.slice sa3 SL3 sc3) (Rf.cur x.log L (SL + 1)) := SC.own p1.row
              obtain ⟨rb, ro, rc, er, _, _, _⟩ := TR.ex (by intro e; rw [e] at hat1; simp at hat1)
              have ea := (Value.slice.inj er).1
              subst ea
              obtain ⟨y0, y1⟩ := TR.at hat1
              have k0 := p1.blk.at (j := 0) rfl
              have k4 := (show BK _ bA 33 _ from XA3).at (j := 4) rfl
              have eS3 : SL3 = SL + 1 := unhide hSL3
              have m1 : (SL : Int) < (SL3 : Int) := by omega
              have m1' : SL < SL3 := by omega
              have P1 := hide p1
              have F4 : Hid (FrS c0 U1 sv (w3.setCell ⟨c0, 0, none⟩ (.slice (some ⟨rb, ro, none⟩) SL3 sc3)) (.slice (some ⟨rb, ro, none⟩) SL3 sc3)) := hide (FrS.trans (unhide HW2).size (unhide HF2) p2)
              have W4 : Hid (Below B U1 (w3.setCell ⟨c0, 0, none⟩ (.slice (some ⟨rb, ro, none⟩) SL3 sc3))) := hide ((unhide HW2).trans p3)
              clear p1 p2 p3 p4 j0 o0 l3 hown hgrow hat bnx hl2 hrow hgr XA3 TX3 TR er hat1 q0 q0' s0 s1 r4 r5 hXB hFb hbAl eS3
              generalize w3.setCell ⟨c0, 0, none⟩ (.slice (some ⟨rb, ro, none⟩) SL3 sc3) = wS at *
              go_wp2_with fail
              go_region
              all_goals
                go_wp2
                go_roundw
                case rel => exact ⟨SL + 1, by omega, by go_num, _, hide ((unhide P1).below (below_drew _)), hide (FrS.trans (unhide W4).size (unhide F4) (FrS.below (below_drew _))), hide ((unhide W4).trans ((below_drew _).mono (unhide P1).szB))⟩
                case measure => simp [intOf]; omega
          · have hlt3 : t < L.length := by omega
            have hSt : t < SL := by have := unhide hSLm; omega
            have g1 : ((t : Int) == (SL : Int)) = false := by rw [beq_eq_false_iff_ne]; omega
            have hsame := Rf.cur_same (log := x.log) hlt3
            have hat1 : (Rf.cur x.log L t)[t]? = some z := by rw [← hsame]; exact (Rf.cur_at (unhide HLl).2.1 (unhide HP).1 (unhide HP).2 htC).trans (unhide HZ)
            have TR : TV (fun b => b < wr.heap.size) wr (.slice sa SL sc) (Rf.cur x.log L t) := SC.own (unhide HQ2).row
            obtain ⟨rb, ro, rc, er, _, _, _⟩ := TR.ex (by intro e; rw [e] at hat1; simp at hat1)
            have ea := (Value.slice.inj er).1
            subst ea
            obtain ⟨y0, y1⟩ := TR.at hat1
            have m1 : (t : Int) < (SL : Int) := by omega
            have Q4 : Hid (SU B c0 wr (.slice (some ⟨rb, ro, none⟩) SL sc) (Rf.cur x.log L (t + 1))) := hide (by rw [hsame]; exact unhide HQ2)
            clear TR er hat1 hsame
            go_wp2_with fail
            go_region
            all_goals
              go_wp2
              go_roundw
              case rel => exact ⟨t + 1, by omega, by go_num, _, hide ((unhide Q4).below (below_drew _)), hide (FrS.trans (unhide HW2).size (unhide HF2) (FrS.below (below_drew _))), hide ((unhide HW2).trans ((below_drew _).mono (unhide HQ2).szB))⟩
              case measure => simp [intOf]; omega
        · obtain rfl : t = C := by omega
          have hng : ¬ (t : Int) < (t : Int) := by omega
          have F3 := hide (FrS.trans (unhide W1).size (unhide F1) (unhide HF2))
          have W3 := hide ((unhide W1).trans (unhide HW2))
          have H60 : Hid ((∃ T, Rf.SureS N g T (Rf.cur x.log L t)) ∧ (Rf.cur x.log L t).length ≤ 60) := hide ⟨unhide HSu, by rw [Rf.cur_len (unhide HLl).2.1]; have := (unhide HL).2; omega⟩
          go_wp2
          go_roundw
          case rel => exact ⟨k + 1, by omega, by go_num, sw, _, HQ2, H60, F3, W3⟩
          case measure => simp [intOf]; omega
    · obtain rfl : k = N := by omega
      have hkk : ¬ (k : Int) < (k : Int) := by omega
      have hKp : Hid (∃ S', KeepSure B c0 k l (i + 1) wr S' ∧ ∀ b, b < w.heap.size → ¬ S b → ¬ S' b ∧ wr.heap[b]? = w.heap[b]?) := hide (by
        obtain ⟨g', hmo, hg'⟩ := Rf.come_next5 (unhide HG)
        obtain ⟨⟨T, hT⟩, h60⟩ := unhide HL
        refine ⟨fun b => b = c0 ∨ sv.ownBlock = some b, ⟨sv, L, g', T, fun _ => Iff.rfl, unhide HQ, hg', hT.more hmo, h60⟩, fun b hb hs => ?_⟩
        have e1 : b ≠ c0 := fun e => hs ((unhide HS b).2 (.inl e))
        have e2 : sv0.ownBlock ≠ some b := fun e => hs ((unhide HS b).2 (.inr e))
        obtain ⟨p1, p2⟩ := unhide HF b hb e1 e2
        exact ⟨fun q => q.elim e1 p1, p2⟩)
      go_wp2
      go_ret
      obtain ⟨S', k1, k2⟩ := unhide hKp
      exact ⟨rfl, unhide HW, S', k1, k2⟩

set_option maxHeartbeats 4000000 in
set_option maxRecDepth 100000 in
theorem sure_walk16 (n : Int) (lv : Value) (l : List Rf.Ev) (w : World) (hl : Ev' w lv l) :
    Calls Try.prog 5 #[.int .i64 n, lv] w fun e w' => e = .returned (.bool true) ∧ Below w.heap.size w w' := by
  have HL := hide hl
  obtain ⟨la, LL, lc, rfl, _, _, _⟩ := SC.shp hl
  clear hl
  have CA := hide (alive_any w)
  go_enter Try.func5, Try.ntmps5
  go_wp2_with fail
  refine (unhide CA).mono ?_
  rintro e w1 ⟨rfl, b1⟩
  obtain ⟨w2, hw2⟩ : ∃ w2, w2 = w1.alloc (.cells #[.slice none 0 0] 30) := ⟨_, rfl⟩
  have c2 : BK w2 w1.heap.size 30 #[.slice none 0 0] := by rw [hw2]; exact BK.new _ _ _
  have b2 : Below w1.heap.size w1 w2 := by rw [hw2]; exact below_new _ _
  have B1 := hide (below_via b1 b2)
  have hB1 : Hid (w.heap.size ≤ w1.heap.size) := hide b1.size
  by_cases hgo : 1 ≤ n ∧ n ≤ 5 ∧ l.length ≤ 300
  · obtain ⟨N, rfl⟩ : ∃ N : Nat, n = (N : Int) := ⟨n.toNat, by omega⟩
    obtain ⟨g, hg⟩ := Rf.first_come (n := (N : Int)) (by omega) (by omega)
    have CT := hide (through_ClusterSure w.heap.size N (.slice la LL lc) l w1.heap.size (KeepSure w.heap.size w1.heap.size N l) (fun b => b = w1.heap.size ∨ (Value.slice none 0 0).ownBlock = some b) w2 (EV.keep (fun b hb => ⟨hb, (unhide B1).block b hb⟩) (unhide HL)) (by omega) (by omega) hgo.2.2 (unhide B1).size (keepSure_held _ _ _ _)
      ⟨.slice none 0 0, [], g, 0, fun _ => Iff.rfl, ⟨c2, World.ownsRow_nil _ _ _ _, (by intro e; cases e), unhide hB1⟩, by rw [show Rf.runW (N : Int) (l.take 0) = Rf.startW N by simp [Rf.runW]]; exact hg, .inl rfl, by simp⟩ (sure_look _ _ N l (by omega) (by omega)))
    clear b1 hgo CA hg c2 b2
    go_upto_region 4 with fail
    rw [← hw2]
    clear hw2
    go_wp2_with fail
    refine (unhide CT).mono ?_
    rintro e w3 ⟨rfl, b3⟩
    have BE := hide ((unhide B1).trans b3)
    clear b3 CT
    go_wp2
    go_ret
    exact ⟨rfl, unhide BE⟩
  · have CT := hide (through_ClusterSure_no n (.slice la LL lc) l w1.heap.size w2 (EV.keep (kept (unhide B1)) (unhide HL)) hgo)
    clear b1 hgo CA c2 b2
    go_upto_region 4 with fail
    rw [← hw2]
    clear hw2
    go_wp2_with fail
    refine (unhide CT).mono ?_
    rintro e w3 ⟨rfl, b3⟩
    have BE := hide (below_via (unhide B1) b3)
    clear b3 CT
    go_wp2
    go_ret
    exact ⟨rfl, unhide BE⟩

end Go.Proofs.Ytipneeeahndonaa.CL

namespace Go.Proofs.Ytipneeeahndonaa.clusterSureDone
open Go.ChangeShapes Go.WideShapes Go.ChangeAt Go.RowKit Go.Joins
open Go.Proofs.Ytipneeeahndonaa Go.Proofs.Ytipneeeahndonaa.CL

theorem own : ownKnob Try.prog.godebug = none := by kernel_rfl

set_option maxRecDepth 100000 in
theorem lifted (os : Os) (started : os.Started) (H : Type) (enc : TypeId × Value → H) :
    ReturnsInHanded {} Try.checked os 5 .any (Rows.clusterSureSpec.pre6 enc Try.prog Try.f5 Rows.clusterSureRow.domain false) (Rows.clusterSureSpec.post enc Try.prog Try.f5 false true false false) := by
  refine returnsInHanded_of_change (C := Try.checked) own started (by kernel_rfl) Try.func5
    (ChangeSpec.witness6 (enc := enc) (C := Try.checked) false ⟨#[], #[.int .i64 0, .slice none 0 0], []⟩ 8 (by kernel_rfl) (by kernel_rfl) (by kernel_rfl) (by kernel_rfl)) ?_
  intro W base args ds gs before hval0 hW _ _
  have hval : ∀ (j : Nat) t v, Try.f5.params[j]? = some t → args[j]? = some v → Value.okWide Try.prog W .any base t v := hval0
  have hW' := hW
  obtain ⟨p, q, hA0, hV, rfl, hfz, hnd⟩ := hW
  have hA : DataW.TrodAll enc Try.prog W 0 (fun _ => true) true Try.f5.params.toList args.toList ds p := hA0
  rw [Try.params5] at hA hval
  obtain ⟨v0, vs0, d0, ds0, p0, q0, hargs, rfl, rfl, h0, r0⟩ := trodAll_cons hA
  obtain ⟨v1, vs1, d1, ds1, p1, q1, rfl, rfl, rfl, h1, r1⟩ := trodAll_cons r0
  obtain ⟨rfl, rfl, rfl⟩ := trodAll_nil r1
  obtain rfl : args = #[v0, v1] := by cases args; simp_all
  obtain ⟨rfl, rfl⟩ := trodVars_none hV
  simp only [List.append_nil] at hW'
  have hlt := fun x hx => hW'.lt x hx
  simp only [List.mem_append] at hlt
  have l0 : ∀ x ∈ p0, x.block < W.heap.size := fun x hx => by simpa using hlt x (by simp [hx])
  have k0 := h0
  obtain ⟨t0, rfl⟩ := okWide_int Try.underlying3 (hval 0 3 v0 rfl rfl)
  obtain ⟨f0, hf0⟩ := h0
  obtain ⟨z0, e0, _⟩ := DataW.trod_int Try.underlying3 hf0
  simp [Value.cells] at e0
  subst e0
  have l1 : ∀ x ∈ p1, x.block < W.heap.size := fun x hx => by simpa using hlt x (by simp [hx])
  have k1 := h1
  obtain ⟨t1, m1⟩ := events_value (hval 1 22 v1 rfl rfl) h1
  clear hA0 hval0 hlt
  refine (sure_walk16 t0 v1 t1 W m1 ).mono fun e W' ⟨he, bel⟩ => ?_
  subst he
  exact ⟨_, rfl, _, _, _, [], _, [], hW', trodAll_mk1 (shut_bool Try.underlying4 _), (trodAll_cons_mk (Below.trod laidOut16 (by kernel_rfl) (of_decide_eq_true (by kernel_rfl)) k0 bel l0) (trodAll_cons_mk (Below.trod laidOut16 (by kernel_rfl) (of_decide_eq_true (by kernel_rfl)) k1 bel l1) trodAll_mk0)), rfl, bel.frame _, fun h => by cases h⟩

theorem over : Rows.clusterSureRow.holds Try.pinned (OpenSpec.ofChange Rows.clusterSureSpec) :=
  OpenClaim.holds_of_wide 5 Try.f5 rfl rfl rfl rfl rfl rfl rfl ⟨rfl, rfl, rfl, rfl, rfl⟩ rfl rfl rfl rfl rfl (by kernel_rfl) Try.func5 (by kernel_rfl)
    (of_decide_eq_true (by kernel_rfl)) (by unfold Func.isWrapper; first | (rw [if_pos (by decide +kernel)]; kernel_rfl) | (rw [if_neg (by decide +kernel)]; exact ⟨rfl, rfl⟩))
    (fun os started H enc _ => lifted os started H enc)
end Go.Proofs.Ytipneeeahndonaa.clusterSureDone
namespace Go.Proofs.Ytipneeeahndonaa
theorem clusterSure_holds : Rows.ClusterSureSaid := clusterSureDone.over
end Go.Proofs.Ytipneeeahndonaa
