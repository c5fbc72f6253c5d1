/- Whoever comes to lead in a later term has all that was sure before, for every number of nodes and every row of events; no conditions. -/
import Derived.Test.YtipneeeahndonaaCRG
import Derived.Test.YtipneeeahndonaaMC
import Derived.Deep.QuietTactic
import Derived.BigQuiet
import Derived.Test.YtipneeeahndonaaRows
import Derived.ProofKit
import Derived.OpenShut
import Derived.ChangeOld
import Derived.Lib.SmallJoins
import Derived.Carry
namespace Go.Proofs.Ytipneeeahndonaa.CL
open Go.RowKit

set_option maxHeartbeats 4000000 in
set_option maxRecDepth 100000 in
theorem through_ClusterComplete_no (n : Int) (lv : Value) (l : List Rf.Ev) (c0 c1 : Nat) (w : World) (hl : Ev' w lv l) (hno : ¬ (1 ≤ n ∧ n ≤ 5 ∧ l.length ≤ 300)) :
    Calls Try.prog 10 #[.int .i64 n, lv, .func (.func 15) #[] #[.pointer (some ⟨c0, 0, none⟩), .pointer (some ⟨c1, 0, none⟩)]] w fun e w' => e = .returned (.bool true) ∧ Below w.heap.size w w' := by
  obtain ⟨la, LL, lc, rfl, hLL, hlc, _⟩ := SC.shp hl
  clear hl
  by_cases h15 : 1 ≤ n ∧ n ≤ 5
  · have h3 : (300 : Int) < (LL : Int) := by have := unhide hLL; omega
    obtain ⟨N, rfl⟩ : ∃ N : Nat, n = (N : Int) := ⟨n.toNat, by omega⟩
    have CS := hide (start_good (A := fun _ => True) raft_rc N w (fun _ _ => trivial) (by omega) (by omega))
    clear hno h15
    go_enter Try.func10, Try.ntmps10
    go_wp2_with fail
    refine (unhide CS).mono ?_
    rintro e w1 ⟨v1, rfl, hv1, b1⟩
    obtain ⟨nv1, tv1, rfl, ⟨nc1, n1, _⟩, ⟨tc1, t1, _⟩⟩ := hv1
    obtain ⟨na, NL, ncap, rfl, _, _, _⟩ := SC.shp n1
    obtain ⟨ta, TL, tcap, rfl, _, _, _⟩ := SC.shp t1
    have BE := hide (below_via b1 (below_new w1 (.cells #[.slice na NL ncap, .slice ta TL tcap] 29)))
    clear n1 t1 b1 CS
    go_wp2
    go_ret
    exact ⟨rfl, unhide BE⟩
  · have CS := hide (start_bad n w h15)
    clear hno h15
    go_enter Try.func10, Try.ntmps10
    go_wp2_with fail
    refine (unhide CS).mono ?_
    rintro e w1 ⟨rfl, b1⟩
    have BE := hide (below_via b1 (below_new w1 (.cells #[.slice none 0 0, .slice none 0 0] 29)))
    clear b1 CS
    go_wp2
    go_ret
    exact ⟨rfl, unhide BE⟩

set_option maxHeartbeats 4000000 in
set_option maxRecDepth 100000 in
theorem through_ClusterComplete (B N : Nat) (lv : Value) (l : List Rf.Ev) (c0 c1 : Nat) (I : Nat → World → (Nat → Prop) → Prop) (S : Nat → Prop) (w : World) (hl : EV (· < B) w lv l) (h1 : 1 ≤ N) (h5 : N ≤ 5) (h300 : l.length ≤ 300) (hB : B ≤ w.heap.size) (hI : Held B I) (h0 : I 0 w S) (hk : Looks 15 #[.pointer (some ⟨c0, 0, none⟩), .pointer (some ⟨c1, 0, none⟩)] B I N l) :
    Calls Try.prog 10 #[.int .i64 (N : Int), lv, .func (.func 15) #[] #[.pointer (some ⟨c0, 0, none⟩), .pointer (some ⟨c1, 0, none⟩)]] w fun e w' => e = .returned (.bool true) ∧ Below B w w' := by
  have HL := hide hl
  obtain ⟨la, LL, lc, rfl, hLL, hlc, _⟩ := SC.shp hl
  clear hl
  have HI := hide hI
  have HK := hide hk
  have HB := hide hB
  have HS0 := hide h0
  have HFit : Hid (∀ k, FitW (Rf.runW (N : Int) (l.take k))) := hide (fun k => by
    obtain ⟨g, hg⟩ := Rf.run_come (n := (N : Int)) (by omega) (by omega) (l.take k)
    exact FitW.of hg (by omega))
  have CS := hide (start_good (A := fun b => ¬ S b) raft_rc N w (fun b hb q => by have := (hI.low 0 w S h0 b q).2; omega) h1 h5)
  have h3' : ¬ (300 : Int) < (LL : Int) := by have := unhide hLL; omega
  have hL300 : LL ≤ 300 := by have := unhide hLL; omega
  clear hI hk hB h0
  go_enter Try.func10, Try.ntmps10
  go_wp2_with fail
  refine (unhide CS).mono ?_
  rintro e w1 ⟨v1, rfl, hv1, b1⟩
  obtain ⟨nv1, tv1, rfl, ⟨nc1, n1, _⟩, ⟨tc1, t1, _⟩⟩ := id hv1
  obtain ⟨na, NL, ncap, rfl, _, _, _⟩ := SC.shp n1
  obtain ⟨ta, TL, tcap, rfl, _, _, _⟩ := SC.shp t1
  obtain ⟨w2, hw2⟩ : ∃ w2, w2 = w1.alloc (.cells #[.slice na NL ncap, .slice ta TL tcap] 29) := ⟨_, rfl⟩
  have b2 : Below w1.heap.size w1 w2 := by rw [hw2]; exact below_new _ _
  have A0 : Hid (BK w2 w1.heap.size 29 #[.slice na NL ncap, .slice ta TL tcap]) := hide (by rw [hw2]; exact BK.new _ _ _)
  have b12 := below_via b1 b2
  have HV2 : Hid (∃ S, I 0 w2 S ∧ ¬ S w1.heap.size ∧ Wv (fun b => ¬ S b) w2 #[.slice na NL ncap, .slice ta TL tcap] (Rf.runW (N : Int) (l.take 0))) := hide (by
    have hlow := (unhide HI).low 0 w S (unhide HS0)
    refine ⟨S, (unhide HI).mono 0 w w2 S (unhide HS0) b12.size (fun b hb => b12.block b (hlow b hb).2), fun q => ?_, ?_⟩
    · have := (hlow _ q).2; have := b1.size; omega
    · rw [show Rf.runW (N : Int) (l.take 0) = Rf.startW N by simp [Rf.runW]]
      exact hv1.below b2)
  have HQ : Hid (B ≤ w1.heap.size) := hide (Nat.le_trans (unhide HB) b1.size)
  have B2 := hide (b12.mono (unhide HB))
  clear n1 t1 hv1 b1 b2 b12 CS HS0
  go_upto_region 2 with fail
  rw [← hw2]
  clear hw2
  generalize w1.heap.size = qb at A0 HV2 HQ ⊢
  go_wp2_with fail
  go_loopw [9] (fun i wr => ∃ k : Nat, k ≤ LL ∧ i = .int .i64 (k : Int) ∧ ∃ na NL ncap ta TL tcap, Hid (BK wr qb 29 #[.slice na NL ncap, .slice ta TL tcap]) ∧ Hid (∃ S, I k wr S ∧ ¬ S qb ∧ Wv (fun b => ¬ S b) wr #[.slice na NL ncap, .slice ta TL tcap] (Rf.runW (N : Int) (l.take k))) ∧ Hid (Below B w wr)) (fun i _ => LL - (intOf i).toNat)
  case atStart => exact ⟨0, Nat.zero_le _, rfl, _, _, _, _, _, _, A0, HV2, B2⟩
  case round =>
    obtain ⟨k, hk, rfl, na', NL', ncap', ta', TL', tcap', HA, HV, HW⟩ := hrel
    obtain ⟨S1, i1, s1, hv⟩ := unhide HV
    have a0 : wr.cell? ⟨qb, 0, none⟩ = some (.slice na' NL' ncap') := (unhide HA).at rfl
    have a1 : wr.cell? ⟨qb, 1, none⟩ = some (.slice ta' TL' tcap') := (unhide HA).at rfl
    have CL := hide (unhide HK k wr _ S1 (by have := unhide hLL; omega) (Nat.le_trans (unhide HB) (unhide HW).size) hv i1)
    have HV1 := hide hv
    have QL := hide (And.intro (unhide HA).low s1)
    clear hv i1 s1 HV
    go_wp2_with fail
    refine (unhide CL).mono ?_
    rintro e w3 ⟨rfl, b3, S3, i3, k3⟩
    have HA3 := hide (show BK w3 qb 29 #[.slice na' NL' ncap', .slice ta' TL' tcap'] from (k3 qb (unhide QL).1 (unhide QL).2).2.trans (unhide HA))
    have hq3 := (k3 qb (unhide QL).1 (unhide QL).2).1
    have hv3 : Wv (fun b => ¬ S3 b) w3 #[.slice na' NL' ncap', .slice ta' TL' tcap'] (Rf.runW (N : Int) (l.take k)) := WV.keep (fun b hb => ⟨⟨Nat.lt_of_lt_of_le hb.1 b3.size, (k3 b hb.1 hb.2).1⟩, (k3 b hb.1 hb.2).2⟩) (unhide HV1)
    have W3 := hide ((unhide HW).trans b3)
    have HI3 := hide (And.intro i3 (And.intro hq3 hv3))
    clear b3 i3 k3 hq3 hv3 a0 a1 CL HV1 QL
    by_cases hkl : k = LL
    · subst hkl
      clear HA HA3
      go_wp2
      go_ret
      exact ⟨rfl, unhide W3⟩
    · have hne : ((k : Int) == (LL : Int)) = false := by rw [beq_eq_false_iff_ne]; omega
      have hlt : k < LL := by omega
      have hlt' : (k : Int) < (LL : Int) := by omega
      obtain ⟨ev, hx⟩ : ∃ ev, l[k]? = some ev := ⟨_, List.getElem?_eq_getElem (by have := unhide hLL; omega)⟩
      have HLr : EV (· < B) w3 (.slice la LL lc) l := EV.keep (fun b hb => ⟨hb, (unhide W3).block b hb⟩) (unhide HL)
      obtain ⟨b, off, rfl, _, d0, d1, d2⟩ := HLr.at hx
      have a0 : w3.cell? ⟨qb, 0, none⟩ = some (.slice na' NL' ncap') := (unhide HA3).at rfl
      have a1 : w3.cell? ⟨qb, 1, none⟩ = some (.slice ta' TL' tcap') := (unhide HA3).at rfl
      have hrt := Rf.run_take (N : Int) l hx
      have hlow := hide ((unhide HI).low k.succ w3 S3 (unhide HI3).1)
      have CP := hide (step_any (A := fun b => ¬ S3 b) (Rf.runW (N : Int) (l.take k)) _ ev.kind ev.node ev.pick w3.drew (fun b hb q => by have : b < w3.heap.size := (unhide hlow b q).2; have hb' : w3.heap.size ≤ b := hb; omega) ((unhide HI3).2.2.below (below_drew w3)) (unhide HFit k) (by rw [show (⟨ev.kind, ev.node, ev.pick⟩ : Rf.Ev) = ev from rfl, ← hrt]; exact unhide HFit (k + 1)))
      rw [show (⟨ev.kind, ev.node, ev.pick⟩ : Rf.Ev) = ev from rfl, ← hrt] at CP
      have hk1 : IntKind.i64.wrap ((k : Int) + 1) = ((k + 1 : Nat) : Int) := wrap_i64 (by omega) (by omega)
      clear HLr HA hrt hx
      go_wp2_with fail
      go_region_with (go_at_call 21; (with_reducible refine (unhide CP).mono ?_); rintro e w4 ⟨v4, rfl, hv4, b4x⟩; have b4 : Below w3.heap.size w3 w4 := (below_drew w3).trans b4x; obtain ⟨nv4, tv4, rfl, ⟨nc4, n4, _⟩, ⟨tc4, t4, _⟩⟩ := id hv4; obtain ⟨na4, NL4, ncap4, rfl, _, _, _⟩ := SC.shp n4; obtain ⟨ta4, TL4, tcap4, rfl, _, _, _⟩ := SC.shp t4; have A4 := (unhide HA3).keep b4; clear a0 a1; have a0 := A4.at (j := 0) rfl; have a1 := A4.at (j := 1) rfl; have f0 := A4.thaw 0; have f1 := A4.thaw 1)
      all_goals
        have SB4 : SB w4 qb := ⟨_, _, _, _, _, _, _, A4⟩
        have hz : ((w4.setCell ⟨qb, 0, none⟩ (.slice na4 NL4 ncap4)).setCell ⟨qb, 1, none⟩ (.slice ta4 TL4 tcap4)).heap.size = w4.heap.size := by simp [World.setCell]
        have hs : ∀ b, b ≠ qb → ((w4.setCell ⟨qb, 0, none⟩ (.slice na4 NL4 ncap4)).setCell ⟨qb, 1, none⟩ (.slice ta4 TL4 tcap4)).heap[b]? = w4.heap[b]? := fun b hn => (Below.heap_setCell _ ⟨qb, 1, none⟩ _ b hn).trans (Below.heap_setCell _ ⟨qb, 0, none⟩ _ b hn)
        have Y0 : Hid (BK ((w4.setCell ⟨qb, 0, none⟩ (.slice na4 NL4 ncap4)).setCell ⟨qb, 1, none⟩ (.slice ta4 TL4 tcap4)) qb 29 #[.slice na4 NL4 ncap4, .slice ta4 TL4 tcap4]) := hide ((A4.set 0 _).set 1 _)
        have Y1 : Hid (∃ S, I (k + 1) ((w4.setCell ⟨qb, 0, none⟩ (.slice na4 NL4 ncap4)).setCell ⟨qb, 1, none⟩ (.slice ta4 TL4 tcap4)) S ∧ ¬ S qb ∧ Wv (fun b => ¬ S b) ((w4.setCell ⟨qb, 0, none⟩ (.slice na4 NL4 ncap4)).setCell ⟨qb, 1, none⟩ (.slice ta4 TL4 tcap4)) #[.slice na4 NL4 ncap4, .slice ta4 TL4 tcap4] (Rf.runW (N : Int) (l.take (k + 1)))) := hide ⟨S3, (unhide HI).mono (k + 1) w3 _ S3 (unhide HI3).1 (by rw [hz]; exact b4.size) (fun b hb => (hs b (fun e => (unhide HI3).2.1 (e ▸ hb))).trans (b4.block b (unhide hlow b hb).2)), (unhide HI3).2.1, wv_put SB4 hv4 _ _⟩
        have Y2 : Hid (Below B w ((w4.setCell ⟨qb, 0, none⟩ (.slice na4 NL4 ncap4)).setCell ⟨qb, 1, none⟩ (.slice ta4 TL4 tcap4))) := hide ((((unhide W3).trans (b4.mono (Nat.le_trans (unhide HB) (unhide W3).size))).setCell (unhide HQ) _).setCell (unhide HQ) _)
        clear SB4 hz hs hv4 b4 b4x n4 t4 A4 a0 a1 f0 f1 d0 d1 d2 CP
        go_wp2
        go_roundw
        case rel => exact ⟨k + 1, by omega, by go_num, _, _, _, _, _, _, Y0, Y1, Y2⟩
        case measure => simp [intOf]; omega

end Go.Proofs.Ytipneeeahndonaa.CL

namespace Go.Proofs.Ytipneeeahndonaa
open Go.RowKit

theorem TV.drewN {P : Nat → Prop} {w : World} {v : Value} {l : List Rf.Item} (h : TV P w v l) (n : Nat) : TV P (w.drewN n) v l := h
theorem NV.log {P : Nat → Prop} {w : World} {u0 u1 u2 u3 u4 u5 u6 u7 u8 u9 u10 : Value} {x : Rf.Node} (h : NV P w #[u0, u1, u2, u3, u4, u5, u6, u7, u8, u9, u10] x) : TV P w u4 x.log := by
  obtain ⟨lv, vv, nv, mv, e, h2, _⟩ := h
  simp only [Array.mk.injEq, List.cons.injEq, and_true] at e
  obtain ⟨_, _, _, _, rfl, _⟩ := e
  exact h2
theorem GV.items {P : Nat → Prop} {w : World} {u0 u1 u2 u3 u4 u5 u6 u7 u8 : Value} {m : Rf.Msg} (h : GV P w #[u0, u1, u2, u3, u4, u5, u6, u7, u8] m) : TV P w u7 m.items := by
  obtain ⟨iv, e, h2⟩ := h
  simp only [Array.mk.injEq, List.cons.injEq, and_true] at e
  obtain ⟨_, _, _, _, _, _, _, rfl, _⟩ := e
  exact h2
/-- a slice's first ones -/
theorem TV.first {P : Nat → Prop} {w : World} {a : Option Addr} {n cap : Nat} {l k : List Rf.Item} (h : TV P w (.slice a n cap) l) (hk : k <+: l) : TV P w (.slice a k.length cap) k := by
  obtain ⟨h1, a', cap', e, h3, h4, h5⟩ := h
  cases e
  obtain ⟨t, rfl⟩ := hk
  have hl : (k ++ t).length = k.length + t.length := List.length_append
  refine ⟨its_len k, a, cap, rfl, by omega, h4, fun hn => ?_⟩
  obtain ⟨b, off, e1, e2, e3⟩ := h5 (by omega)
  refine ⟨b, off, e1, e2, fun j u hj => e3 j u ?_⟩
  rw [its_app, List.getElem?_append_left (List.getElem?_eq_some_iff.1 hj).1]
  exact hj

end Go.Proofs.Ytipneeeahndonaa

namespace Go.Proofs.Ytipneeeahndonaa.R15
open Go.RowKit

set_option maxHeartbeats 2000000 in
theorem sameItems_any (l : List Rf.Item) (u v : Value) (w : World) (hu : Tv w u l) (hv : Tv w v l) : Calls Try.prog 13 #[u, v] w fun e w' => e = .returned (.bool true) ∧ ∃ m, w' = w.drewN m := by
  obtain ⟨a1, L1, c1, rfl, hL1, _, _⟩ := SC.shp hu
  obtain ⟨a2, L2, c2, rfl, hL2, _, _⟩ := SC.shp hv
  have e12 : L2 = L1 := (unhide hL2).trans (unhide hL1).symm
  subst e12
  have HU := hide hu
  have HV := hide hv
  clear hu hv hL1
  go_enter Try.func13, Try.ntmps13
  go_wp2_with fail
  go_loopw [13] (fun i wr => ∃ m : Nat, m ≤ L2 ∧ i = .int .i64 (m : Int) ∧ ∃ k, wr = w.drewN k) (fun i _ => L2 - (intOf i).toNat)
  case atStart => exact ⟨0, Nat.zero_le _, rfl, 0, rfl⟩
  case round =>
    obtain ⟨m, hm, rfl, k, rfl⟩ := hrel
    by_cases hlt : m < L2
    · have hi1 : (m : Int) < (L2 : Int) := by omega
      have hlt2 : m < l.length := by rw [← unhide hL2]; exact hlt
      obtain ⟨x, hx⟩ : ∃ x, l[m]? = some x := ⟨_, List.getElem?_eq_getElem hlt2⟩
      have hne : l ≠ [] := by intro e; rw [e] at hlt2; simp at hlt2
      obtain ⟨b1, o1, cap1, e, _⟩ := (unhide HU).ex hne
      have ea : a1 = some ⟨b1, o1, none⟩ := by cases e; rfl
      clear e
      subst ea
      obtain ⟨b2, o2, cap2, e, _⟩ := (unhide HV).ex hne
      have ea : a2 = some ⟨b2, o2, none⟩ := by cases e; rfl
      clear e
      subst ea
      obtain ⟨x0, x1⟩ := (unhide HU).at hx
      obtain ⟨y0, y1⟩ := (unhide HV).at hx
      clear hx hne hlt2
      go_wp2_with fail
      go_region
      all_goals
        go_wp2
        go_roundw
        case rel => exact ⟨m + 1, by omega, by go_num, _, rfl⟩
        case measure => simp [intOf]; omega
    · obtain rfl : m = L2 := by omega
      go_wp2
      go_ret
      exact ⟨rfl, _, rfl⟩

end Go.Proofs.Ytipneeeahndonaa.R15

namespace Go.Proofs.Ytipneeeahndonaa.CL
open Go.RowKit

/-- a row of items, kept in block c0 -/
structure SU (B c0 : Nat) (w : World) (sv : Value) (L : List Rf.Item) : Prop where
  blk : BK w c0 30 #[sv]
  row : w.ownsRow B 38 2 sv L.length (its L)
  ne : sv.ownBlock ≠ some c0
  low : B ≤ c0
/-- all else is as it was -/
def FrS (c0 : Nat) (w : World) (sv : Value) (w' : World) (sv' : Value) : Prop := ∀ b, b < w.heap.size → b ≠ c0 → sv.ownBlock ≠ some b → sv'.ownBlock ≠ some b ∧ w'.heap[b]? = w.heap[b]?
theorem FrS.refl (c0 : Nat) (w : World) (sv : Value) : FrS c0 w sv w sv := fun _ _ _ h => ⟨h, rfl⟩
theorem FrS.trans {c0 : Nat} {w w1 w2 : World} {sv sv1 sv2 : Value} (hs : w.heap.size ≤ w1.heap.size) (h : FrS c0 w sv w1 sv1) (k : FrS c0 w1 sv1 w2 sv2) : FrS c0 w sv w2 sv2 := fun b hb hc ho => ⟨(k b (Nat.lt_of_lt_of_le hb hs) hc (h b hb hc ho).1).1, (k b (Nat.lt_of_lt_of_le hb hs) hc (h b hb hc ho).1).2.trans (h b hb hc ho).2⟩
theorem FrS.below {c0 : Nat} {w w1 : World} {sv : Value} (hb : Below w.heap.size w w1) : FrS c0 w sv w1 sv := fun b h _ ho => ⟨ho, hb.block b h⟩
theorem SU.below {B c0 : Nat} {w w1 : World} {sv : Value} {L : List Rf.Item} (h : SU B c0 w sv L) (hb : Below w.heap.size w w1) : SU B c0 w1 sv L := ⟨h.blk.keep hb, own_below h.row hb, h.ne, h.low⟩
theorem SU.szB {B c0 : Nat} {w : World} {sv : Value} {L : List Rf.Item} (h : SU B c0 w sv L) : B ≤ w.heap.size := Nat.le_trans h.low (Nat.le_of_lt h.blk.low)
theorem SU.same {B c0 : Nat} {w w1 : World} {sv : Value} {L : List Rf.Item} (h : SU B c0 w sv L) (h0 : w1.heap[c0]? = w.heap[c0]?) (h1 : ∀ b, sv.ownBlock = some b → w1.heap[b]? = w.heap[b]?) : SU B c0 w1 sv L := ⟨h0.trans h.blk, own_same h.row h1, h.ne, h.low⟩
/-- another row takes its place -/
theorem SU.put {B c0 : Nat} {w w1 w3 : World} {sv sv' : Value} {L L' : List Rf.Item} (h : SU B c0 w sv L) (hb : Below w.heap.size w w1) (ho : w3.ownsRow B 38 2 sv' L'.length (its L')) (hg : w1.grownBy w3 sv.ownBlock) (hat : Upd w1.heap.size sv sv') :
    SU B c0 (w3.setCell ⟨c0, 0, none⟩ sv') sv' L' ∧ FrS c0 w sv (w3.setCell ⟨c0, 0, none⟩ sv') sv' ∧ Below B w (w3.setCell ⟨c0, 0, none⟩ sv') ∧ BK w3 c0 30 #[sv] := by
  have hu : Upd w.heap.size sv sv' := by
    rcases hat with e | e
    · exact .inl e
    · exact .inr fun k hk => Nat.le_trans hb.size (e k hk)
  have hne := ne_upd h.ne h.blk.low hu
  have hs := grown_set w3 ⟨c0, 0, none⟩ sv'
  have h1 := h.below hb
  have hb3 : BK w3 c0 30 #[sv] := (hg.block c0 h1.blk.low (fun e => h.ne e.symm)).trans h1.blk
  refine ⟨⟨hb3.set 0 sv', own_ne ho hs fun k hk e => hne (by cases e; exact hk), hne, h.low⟩, fun b hbl hc hoo => ?_, ?_, hb3⟩
  · have l1 := Nat.lt_of_lt_of_le hbl hb.size
    exact ⟨ne_upd hoo hbl hu, (hs.block b (Nat.lt_of_lt_of_le l1 hg.size) (fun e => hc (by cases e; rfl))).trans ((hg.block b l1 (fun e => hoo e.symm)).trans (hb.block b hbl))⟩
  · exact ((((hb.mono h.szB)).grown hg (Nat.le_trans h.szB hb.size) (fun k hk => (World.ownsRow.lt h.row k hk).1))).setCell h.low _
theorem item_block (W : World) (t : TypeId) (a b : Int) : ∀ j u, [Value.int .i64 a, .int .i64 b][j]? = some u → (W.alloc (.cells #[.int .i64 a, .int .i64 b] t)).cell? ((⟨W.heap.size, 0, none⟩ : Addr).add j) = some u := by
  intro j u h
  exact block_cells W t #[.int .i64 a, .int .i64 b] j u (by simpa using h)
theorem item_one (a b : Int) : ∀ u ∈ [Value.int .i64 a, .int .i64 b], u.oneCell' = true := by
  intro u hu
  simp at hu
  rcases hu with rfl | rfl <;> rfl
theorem its_more (l : List Rf.Item) (x : Rf.Item) : its (l ++ [x]) = its l ++ [.int .i64 x.1, .int .i64 x.2] := by simp [its]

end Go.Proofs.Ytipneeeahndonaa.CL
namespace Go.Proofs.Ytipneeeahndonaa.Rf

/-- what counts as sure behind so many of a node's items -/
def cur (log L : List Item) (i : Nat) : List Item := if i ≤ L.length then L else log.take i
theorem cur_len {log L : List Item} {i : Nat} (hi : i ≤ log.length) : (cur log L i).length = max i L.length := by
  unfold cur
  split
  · omega
  · rw [List.length_take]; omega
theorem cur_at {log L : List Item} {c i : Nat} (hc : c ≤ log.length) (h1 : c ≤ L.length → log.take c <+: L) (_h2 : L.length ≤ c → L <+: log.take c) (hi : i < c) : (cur log L (i + 1))[i]? = log[i]? := by
  unfold cur
  split
  · rename_i hl
    rcases Nat.lt_or_ge c L.length with q | q
    · obtain ⟨t, ht⟩ := h1 (by omega)
      rw [← ht, List.getElem?_append_left (by rw [List.length_take]; omega), List.getElem?_take_of_lt hi]
    · obtain ⟨t, ht⟩ := _h2 q
      have : (log.take c)[i]? = log[i]? := List.getElem?_take_of_lt hi
      rw [← this, ← ht, List.getElem?_append_left (by omega)]
  · rw [List.getElem?_take_of_lt (by omega)]
theorem cur_more {log L : List Item} {c i : Nat} (h2 : L.length ≤ c → L <+: log.take c) (hi : i < c) {x : Item} (hx : log[i]? = some x) (hl : L.length ≤ i) : cur log L (i + 1) = cur log L i ++ [x] := by
  have e1 : cur log L (i + 1) = log.take (i + 1) := by unfold cur; rw [if_neg (by omega)]
  have e2 : cur log L i = log.take i := by
    unfold cur
    split
    · have : L.length = i := by omega
      obtain ⟨t, ht⟩ := h2 (by omega)
      have h3 : (log.take c).take i = L := by rw [← ht, ← this, List.take_left]
      rw [List.take_take, Nat.min_eq_left (by omega)] at h3
      exact h3.symm
    · rfl
  rw [e1, e2]
  obtain ⟨q1, q2⟩ := List.getElem?_eq_some_iff.1 hx
  rw [← q2, List.take_append_getElem q1]
theorem cur_same {log L : List Item} {i : Nat} (hl : i < L.length) : cur log L (i + 1) = cur log L i := by
  unfold cur
  rw [if_pos (by omega), if_pos (by omega)]
theorem cur_sure {N : Int} {g : Gh} {T : Int} {x : Node} {L : List Item} (hL : SureS N g T L) (hx : SureS N g x.term (x.log.take x.commit.toNat)) : ∃ T', SureS N g T' (cur x.log L x.commit.toNat) := by
  unfold cur
  split
  · exact ⟨T, hL⟩
  · exact ⟨x.term, hx⟩

end Go.Proofs.Ytipneeeahndonaa.Rf

namespace Go.Proofs.Ytipneeeahndonaa.Rf

theorem come_next6 {N : Int} {l : List Ev} {i : Nat} {g : Gh} (h : Come N g (runW N (l.take i))) : ∃ g', More g g' ∧ Come N g' (runW N (l.take (i + 1))) := by
  cases hx : l[i]? with
  | some e =>
    rw [run_take N l hx]
    exact step_come h e
  | none =>
    have hl : l.length ≤ i := List.getElem?_eq_none_iff.1 hx
    rw [List.take_of_length_le hl] at h
    rw [List.take_of_length_le (by omega)]
    exact ⟨g, More.refl g, h⟩

end Go.Proofs.Ytipneeeahndonaa.Rf
namespace Go.Proofs.Ytipneeeahndonaa.CL
open Go.RowKit

/-- all else is as it was -/
def FrC (c0 c1 : Nat) (w : World) (sv : Value) (w' : World) (sv' : Value) : Prop := ∀ b, b < w.heap.size → b ≠ c0 → b ≠ c1 → sv.ownBlock ≠ some b → sv'.ownBlock ≠ some b ∧ w'.heap[b]? = w.heap[b]?
theorem FrC.trans {c0 c1 : Nat} {w w1 w2 : World} {sv sv1 sv2 : Value} (hs : w.heap.size ≤ w1.heap.size) (h : FrC c0 c1 w sv w1 sv1) (k : FrC c0 c1 w1 sv1 w2 sv2) : FrC c0 c1 w sv w2 sv2 := fun b hb hc hd ho => ⟨(k b (Nat.lt_of_lt_of_le hb hs) hc hd (h b hb hc hd ho).1).1, (k b (Nat.lt_of_lt_of_le hb hs) hc hd (h b hb hc hd ho).1).2.trans (h b hb hc hd ho).2⟩
theorem FrC.below {c0 c1 : Nat} {w w1 : World} {sv : Value} (hb : Below w.heap.size w w1) : FrC c0 c1 w sv w1 sv := fun b h _ _ ho => ⟨ho, hb.block b h⟩
theorem FrC.of {c0 c1 : Nat} {w w1 : World} {sv sv1 : Value} (h : FrS c1 w sv w1 sv1) : FrC c0 c1 w sv w1 sv1 := fun b hb _ hd ho => h b hb hd ho
theorem FrC.set (c0 c1 : Nat) (w : World) (sv : Value) (u : Value) : FrC c0 c1 w sv (w.setCell ⟨c0, 0, none⟩ u) sv := fun b _ hc _ ho => ⟨ho, Below.heap_setCell w ⟨c0, 0, none⟩ u b hc⟩
theorem SU.put2 {B c0 : Nat} {w w3 : World} {sv sv' : Value} {L L' : List Rf.Item} (h : SU B c0 w sv L) (hb : Below w.heap.size w w3) (ho : w3.ownsRow B 38 2 sv' L'.length (its L')) (hu : ∀ k, sv'.ownBlock = some k → w.heap.size ≤ k) :
    SU B c0 (w3.setCell ⟨c0, 0, none⟩ sv') sv' L' ∧ FrS c0 w sv (w3.setCell ⟨c0, 0, none⟩ sv') sv' ∧ Below B w (w3.setCell ⟨c0, 0, none⟩ sv') ∧ BK w3 c0 30 #[sv] := by
  have hne : sv'.ownBlock ≠ some c0 := fun e => by have := hu c0 e; have := h.blk.low; omega
  have hs := grown_set w3 ⟨c0, 0, none⟩ sv'
  have hb3 : BK w3 c0 30 #[sv] := h.blk.keep hb
  refine ⟨⟨hb3.set 0 sv', own_ne ho hs fun k hk e => hne (by cases e; exact hk), hne, h.low⟩, fun b hbl hc _ => ?_, ?_, hb3⟩
  · exact ⟨fun e => by have := hu b e; omega, (hs.block b (Nat.lt_of_lt_of_le hbl hb.size) (fun e => hc (by cases e; rfl))).trans (hb.block b hbl)⟩
  · exact (hb.mono h.szB).setCell h.low _
/-- a term and a row are kept in three blocks -/
def KeepComp (B c0 c1 : Nat) (N : Int) (l : List Rf.Ev) (i : Nat) (w : World) (S : Nat → Prop) : Prop :=
  ∃ sv L g T, (∀ b, S b ↔ b = c0 ∨ b = c1 ∨ sv.ownBlock = some b) ∧ c0 ≠ c1 ∧ BK w c0 3 #[.int .i64 T] ∧ SU B c1 w sv L ∧ sv.ownBlock ≠ some c0 ∧ B ≤ c0 ∧ Rf.Come N g (Rf.runW N (l.take i)) ∧ Rf.SureS N g T L ∧ L.length ≤ 60
theorem keepComp_held (B c0 c1 : Nat) (N : Int) (l : List Rf.Ev) : Held B (KeepComp B c0 c1 N l) := by
  constructor
  · rintro i w w' S ⟨sv, L, g, T, h1, h2, h3, h4, h5⟩ hs hb
    exact ⟨sv, L, g, T, h1, h2, (hb c0 ((h1 c0).2 (.inl rfl))).trans h3, h4.same (hb c1 ((h1 c1).2 (.inr (.inl rfl)))) (fun b hk => hb b ((h1 b).2 (.inr (.inr hk)))), h5⟩
  · rintro i w S ⟨sv, L, g, T, h1, h2, h3, h4, h5, h6, _⟩ b hb
    rcases (h1 b).1 hb with rfl | rfl | e
    · exact ⟨h6, h3.low⟩
    · exact ⟨h4.low, h4.blk.low⟩
    · exact World.ownsRow.lt h4.row b e

set_option maxHeartbeats 16000000 in
set_option maxRecDepth 100000 in
theorem complete_look (B c0 c1 N : Nat) (l : List Rf.Ev) (h1 : 1 ≤ N) (h5 : N ≤ 5) : Looks 15 #[.pointer (some ⟨c0, 0, none⟩), .pointer (some ⟨c1, 0, none⟩)] B (KeepComp B c0 c1 N l) N l := by
  rintro i w v S _ hB hv ⟨sv0, L0, g, T0, hS, h01, hin, hsu, hn0, hB0, hg, hL, hL60⟩
  have hlen := hg.1.len
  have HHas := hide (fun (k : Nat) (x : Rf.Node) (hx : (Rf.runW (N : Int) (l.take i)).nodes[k]? = some x) (hr : x.role = 3) (T : Int) (S : List Rf.Item) (hS : Rf.SureS N g T S) (hT : T < x.term) => Rf.leader_has hg.1 hx hr hS hT)
  have HNs := hide (fun (k : Nat) (x : Rf.Node) (hx : (Rf.runW (N : Int) (l.take i)).nodes[k]? = some x) => And.intro (Rf.node_sure hg.1 hx) (And.intro (hg.1.nd k x hx).2.1.commit (hg.1.nd k x hx).2.1.log))
  have HG := hide hg
  generalize Rf.runW (N : Int) (l.take i) = W at hv hlen HNs HHas
  clear hg
  obtain ⟨nv, tv, rfl, hN, ⟨tc, t1, _⟩⟩ := hv
  obtain ⟨ta, TL, tcap, rfl, hTL, _, _⟩ := SC.shp t1
  clear t1
  have hNs : NsV (fun b => b < w.heap.size ∧ b ≠ c0 ∧ b ≠ c1 ∧ sv0.ownBlock ≠ some b) w nv W.nodes := hN.keep fun b hb => ⟨⟨hb.1, fun e => hb.2 ((hS b).2 (.inl e)), fun e => hb.2 ((hS b).2 (.inr (.inl e))), fun e => hb.2 ((hS b).2 (.inr (.inr e)))⟩, rfl⟩
  clear hN
  have hlN : W.nodes.length = N := by omega
  obtain ⟨b, off, cap, rfl, _, hcap, _⟩ := hNs.ex (by intro e; rw [e] at hlN; simp at hlN; omega)
  rw [hlN] at hcap hNs ⊢
  have HN := hide hNs
  have HLN := hide hlN
  have HS := hide hS
  have HBB := hide hB
  have H01 := hide (And.intro h01 (And.intro hn0 hB0))
  clear hNs hlN hS hB hlen h01 hn0 hB0
  obtain ⟨U0, hU0⟩ : ∃ U0, U0 = w.alloc (.cells #[.slice (some ⟨b, off, none⟩) N cap, .slice ta TL tcap] 29) := ⟨_, rfl⟩
  have HB : Hid (Below w.heap.size w U0) := hide (by rw [hU0]; exact below_new _ _)
  have X0 : Hid (BK U0 w.heap.size 29 #[.slice (some ⟨b, off, none⟩) N cap, .slice ta TL tcap]) := hide (by rw [hU0]; exact BK.new _ _ _)
  have x0 : U0.cell? ⟨w.heap.size, 0, none⟩ = some (.slice (some ⟨b, off, none⟩) N cap) := (unhide X0).at rfl
  obtain ⟨sa0, SL0, sc0, rfl, hSL0, _, _⟩ := SC.shp (SC.own hsu.row)
  have Q0 := hide hsu
  have I0 := hide hin
  have HL0 := hide (And.intro hL hL60)
  have HSZ := hide hsu.szB
  have hSL60 : SL0 ≤ 60 := by have := unhide hSL0; omega
  clear hsu hL hL60 hin
  go_enter Try.func15, Try.ntmps15
  go_upto_region 1 with fail
  rw [← hU0]
  clear hU0
  go_wp2_with fail
  go_loopw [12] (fun i wr => ∃ k : Nat, k ≤ N ∧ i = .int .i64 (k : Int) ∧ Hid (Below U0.heap.size U0 wr)) (fun i _ => N - (intOf i).toNat)
  case atStart => exact ⟨0, Nat.zero_le _, rfl, hide (Below.refl _ _)⟩
  case round =>
    obtain ⟨k, hk, rfl, HW⟩ := hrel
    clear x0
    have HWw := hide (below_via (unhide HB) (unhide HW))
    by_cases hlt : k < N
    · have hi1 : (k : Int) < (N : Int) := by omega
      obtain ⟨x, hx⟩ : ∃ y, W.nodes[k]? = some y := ⟨_, List.getElem?_eq_getElem (by have := unhide HLN; omega)⟩
      obtain ⟨u, hNx, hat⟩ := (NsV.keep (Q := fun b => b < wr.heap.size) (fun b hb => ⟨Nat.lt_of_lt_of_le hb.1 (unhide HWw).size, (unhide HWw).block b hb.1⟩) (unhide HN)).at hx
      obtain ⟨a1, n1, cc1, a2, n2, c2, a3, n3, c3, a4, n4, c4, rfl⟩ := hNx.cellsC
      have d0 := hat 0 _ rfl
      have d1 := hat 1 _ rfl
      have d2 := hat 2 _ rfl
      have d3 := hat 3 _ rfl
      have d4 := hat 4 _ rfl
      have d5 := hat 5 _ rfl
      have d6 := hat 6 _ rfl
      have d7 := hat 7 _ rfl
      have d8 := hat 8 _ rfl
      have d9 := hat 9 _ rfl
      have d10 := hat 10 _ rfl
      rw [Nat.add_zero] at d0
      obtain ⟨U1, hU1⟩ : ∃ U, U = wr.alloc (.cells #[.int .i64 x.id, .int .i64 x.n, .int .i64 x.term, .int .i64 x.vote, .slice a1 n1 cc1, .int .i64 x.commit, .int .i64 x.role, .int .i64 x.boss, .slice a2 n2 c2, .slice a3 n3 c3, .slice a4 n4 c4] 33) := ⟨_, rfl⟩
      have bn : Below wr.heap.size wr U1 := by rw [hU1]; exact below_new _ _
      have XA : BK U1 wr.heap.size 33 #[.int .i64 x.id, .int .i64 x.n, .int .i64 x.term, .int .i64 x.vote, .slice a1 n1 cc1, .int .i64 x.commit, .int .i64 x.role, .int .i64 x.boss, .slice a2 n2 c2, .slice a3 n3 c3, .slice a4 n4 c4] := by rw [hU1]; exact BK.new _ _ _
      have TA : Hid (Tv U1 (.slice a1 n1 cc1) x.log) := hide (TV.keep (kept bn) (NV.log hNx))
      have W1 := hide (below_via (unhide HW) bn)
      have Ww1 := hide (below_via (unhide HWw) bn)
      have r2 : U1.cell? ⟨wr.heap.size, 2, none⟩ = some (.int .i64 x.term) := XA.at rfl
      have r4 : U1.cell? ⟨wr.heap.size, 4, none⟩ = some (.slice a1 n1 cc1) := XA.at rfl
      have r6 : U1.cell? ⟨wr.heap.size, 6, none⟩ = some (.int .i64 x.role) := XA.at rfl
      have v0 : U1.cell? ⟨c0, 0, none⟩ = some (.int .i64 T0) := ((unhide I0).keep (unhide Ww1)).at rfl
      have v1 : U1.cell? ⟨c1, 0, none⟩ = some (.slice sa0 SL0 sc0) := ((unhide Q0).blk.keep (unhide Ww1)).at rfl
      have HX := hide hx
      clear hNx bn hat hx XA
      go_upto_region 4 with fail
      rw [← hU1]
      clear hU1 d0 d1 d2 d3 d4 d5 d6 d7 d8 d9 d10
      generalize wr.heap.size = bA at r2 r4 r6 ⊢
      by_cases hr : x.role = 3
      · have g1 : (x.role == 3) = true := by simpa using hr
        by_cases hT : T0 < x.term
        · have g2 : decide (T0 < x.term) = true := decide_eq_true hT
          have hpre := unhide HHas k x (unhide HX) hr T0 L0 (unhide HL0).1 hT
          obtain ⟨_, _, e, hnc, _⟩ := SC.shape (show SC _ U1 (.slice a1 n1 cc1) 2 x.log.length (its x.log) from unhide TA)
          have en1 : n1 = x.log.length := (Value.slice.inj e).2.1
          have enc : n1 ≤ cc1 := by rw [en1, (Value.slice.inj e).2.2]; exact hnc
          have hle : L0.length ≤ x.log.length := hpre.length_le
          have eSL : SL0 = L0.length := unhide hSL0
          have g3 : decide ((n1 : Int) < (SL0 : Int)) = false := decide_eq_false (by omega)
          have g3' : decide (n1 < SL0) = false := decide_eq_false (by omega)
          have m1 : SL0 ≤ cc1 := by omega
          have m2 : (SL0 : Int) ≤ (cc1 : Int) := by omega
          have TX1 : Hid (Tv U1 (.slice a1 SL0 cc1) L0) := hide (by rw [eSL]; exact (unhide TA).first hpre)
          have TY1 : Hid (Tv U1 (.slice sa0 SL0 sc0) L0) := hide (SC.own ((unhide Q0).below (unhide Ww1)).row)
          clear hr hT hpre e en1 hle eSL hnc
          go_quiet ((go_at_call 13; exact Calls.quiet_of (R15.sameItems_any L0 _ _ _ (TV.drewN (unhide TX1) _) (TV.drewN (unhide TY1) _))))
          go_wp2
          go_roundw
          case rel => exact ⟨k + 1, by omega, by go_num, hide (below_drewN (unhide W1) _)⟩
          case measure => simp [intOf]; omega
        · have g2 : decide (T0 < x.term) = false := decide_eq_false hT
          clear hr hT
          go_quiet (fail)
          go_wp2
          go_roundw
          case rel => exact ⟨k + 1, by omega, by go_num, hide (below_drewN (unhide W1) _)⟩
          case measure => simp [intOf]; omega
      · have g1 : (x.role == 3) = false := by simpa using hr
        clear hr
        go_quiet (fail)
        go_wp2
        go_roundw
        case rel => exact ⟨k + 1, by omega, by go_num, hide (below_drewN (unhide W1) _)⟩
        case measure => simp [intOf]; omega
    · obtain rfl : k = N := by omega
      have hkk : ¬ (k : Int) < (k : Int) := by omega
      have x0 : wr.cell? ⟨w.heap.size, 0, none⟩ = some (.slice (some ⟨b, off, none⟩) k cap) := ((unhide X0).keep (unhide HW)).at rfl
      have Q1 := hide ((unhide Q0).below (unhide HWw))
      have I1 := hide ((unhide I0).keep (unhide HWw))
      go_wp2_with fail
      go_loopw [47] (fun i wr => ∃ j : Nat, j ≤ k ∧ i = .int .i64 (j : Int) ∧ ∃ sv L T, Hid (BK wr c0 3 #[.int .i64 T]) ∧ Hid (SU B c1 wr sv L) ∧ Hid (sv.ownBlock ≠ some c0) ∧ Hid (Rf.SureS (k : Int) g T L ∧ L.length ≤ 60) ∧ Hid (FrC c0 c1 w (.slice sa0 SL0 sc0) wr sv) ∧ Hid (Below B w wr)) (fun i _ => k - (intOf i).toNat)
      case atStart => exact ⟨0, Nat.zero_le _, rfl, _, L0, T0, I1, Q1, hide (unhide H01).2.1, HL0, hide (FrC.below (unhide HWw)), hide ((unhide HWw).mono (unhide HSZ))⟩
      case round =>
        obtain ⟨j, hj, rfl, sv, L, T, HI, HQ, HNE, HL, HF, HV⟩ := hrel
        clear x0
        by_cases hlt2 : j < k
        · have hj1 : (j : Int) < (k : Int) := by omega
          obtain ⟨x, hx⟩ : ∃ y, W.nodes[j]? = some y := ⟨_, List.getElem?_eq_getElem (by have := unhide HLN; omega)⟩
          obtain ⟨u, hNx, hat⟩ := (NsV.keep (Q := fun b => b < wr.heap.size ∧ b ≠ c0 ∧ b ≠ c1 ∧ sv.ownBlock ≠ some b) (fun b hb => ⟨⟨Nat.lt_of_lt_of_le hb.1 (unhide HV).size, hb.2.1, hb.2.2.1, (unhide HF b hb.1 hb.2.1 hb.2.2.1 hb.2.2.2).1⟩, (unhide HF b hb.1 hb.2.1 hb.2.2.1 hb.2.2.2).2⟩) (unhide HN)).at hx
          obtain ⟨a1, n1, cc1, a2, n2, c2, a3, n3, c3, a4, n4, c4, rfl⟩ := hNx.cellsC
          have d0 := hat 0 _ rfl
          have d1 := hat 1 _ rfl
          have d2 := hat 2 _ rfl
          have d3 := hat 3 _ rfl
          have d4 := hat 4 _ rfl
          have d5 := hat 5 _ rfl
          have d6 := hat 6 _ rfl
          have d7 := hat 7 _ rfl
          have d8 := hat 8 _ rfl
          have d9 := hat 9 _ rfl
          have d10 := hat 10 _ rfl
          rw [Nat.add_zero] at d0
          obtain ⟨U1, hU1⟩ : ∃ U, U = wr.alloc (.cells #[.int .i64 x.id, .int .i64 x.n, .int .i64 x.term, .int .i64 x.vote, .slice a1 n1 cc1, .int .i64 x.commit, .int .i64 x.role, .int .i64 x.boss, .slice a2 n2 c2, .slice a3 n3 c3, .slice a4 n4 c4] 33) := ⟨_, rfl⟩
          have bn : Below wr.heap.size wr U1 := by rw [hU1]; exact below_new _ _
          have XA : Hid (BK U1 wr.heap.size 33 #[.int .i64 x.id, .int .i64 x.n, .int .i64 x.term, .int .i64 x.vote, .slice a1 n1 cc1, .int .i64 x.commit, .int .i64 x.role, .int .i64 x.boss, .slice a2 n2 c2, .slice a3 n3 c3, .slice a4 n4 c4]) := hide (by rw [hU1]; exact BK.new _ _ _)
          have TA : Hid (Tv U1 (.slice a1 n1 cc1) x.log) := hide (TV.keep (fun b hb => kept bn b hb.1) (NV.log hNx))
          have Q2 := (unhide HQ).below bn
          have I2 := hide ((unhide HI).keep bn)
          have F2 : Hid (FrC c0 c1 w (.slice sa0 SL0 sc0) U1 sv) := hide (FrC.trans (unhide HV).size (unhide HF) (FrC.below bn))
          have V2 : Hid (Below B w U1) := hide ((unhide HV).trans (bn.mono (unhide HQ).szB))
          obtain ⟨sa, SL, sc, rfl, hSL, _, _⟩ := SC.shp (SC.own Q2.row)
          have HQ2 := hide Q2
          obtain ⟨hns, hcm, hlg⟩ := unhide HNs j x hx
          obtain ⟨C, hC⟩ : ∃ C : Nat, x.commit = (C : Int) := ⟨x.commit.toNat, by have := hcm.1; omega⟩
          have hCl : C ≤ x.log.length := by have := hcm.2; omega
          rw [hC, Int.toNat_natCast] at hns
          have r5 : U1.cell? ⟨wr.heap.size, 5, none⟩ = some (.int .i64 (C : Int)) := by rw [← hC]; exact (unhide XA).at rfl
          have r4 : U1.cell? ⟨wr.heap.size, 4, none⟩ = some (.slice a1 n1 cc1) := (unhide XA).at rfl
          have r2 : U1.cell? ⟨wr.heap.size, 2, none⟩ = some (.int .i64 x.term) := (unhide XA).at rfl
          have v1 : U1.cell? ⟨c1, 0, none⟩ = some (.slice sa SL sc) := Q2.blk.at rfl
          have XL : Hid (wr.heap.size < U1.heap.size ∧ wr.heap.size ≠ c0 ∧ wr.heap.size ≠ c1 ∧ (Value.slice sa SL sc).ownBlock ≠ some wr.heap.size) := hide ⟨(unhide XA).low, by have := (unhide HI).low; omega, by have := (unhide HQ).blk.low; omega, fun e => by have := (World.ownsRow.lt (unhide HQ).row _ e).2; omega⟩
          obtain ⟨_, _, e, hnc, _⟩ := SC.shape (show SC _ U1 (.slice a1 n1 cc1) 2 x.log.length (its x.log) from unhide TA)
          have en1 : n1 = x.log.length := (Value.slice.inj e).2.1
          have enc : n1 ≤ cc1 := by rw [en1, (Value.slice.inj e).2.2]; exact hnc
          have HNs2 := hide (And.intro hns (And.intro hCl hlg))
          have hC60 : C ≤ 60 := by omega
          have m1 : C ≤ cc1 := by omega
          have m2 : (C : Int) ≤ (cc1 : Int) := by omega
          have TX : Hid (Tv U1 (.slice a1 C cc1) (x.log.take C)) := hide (by
            have := (unhide TA).first (List.take_prefix C x.log)
            rwa [List.length_take, Nat.min_eq_left hCl] at this)
          have HCc := hide hC
          clear hNx bn hat hx hns hcm hlg hCl en1 e hnc Q2 hC
          go_upto_region 10 with fail
          rw [← hU1]
          clear hU1 d0 d1 d2 d3 d4 d5 d6 d7 d8 d9 d10
          generalize wr.heap.size = bA at XA XL r2 r4 r5 ⊢
          by_cases hgt : SL < C
          · have g1 : (SL : Int) < (C : Int) := by omega
            obtain ⟨i0, hi0, hz0, hz1, hz2⟩ := info_parts info_T
            have I0' := hide hi0
            have I1' := hide hz0
            have I2' := hide hz1
            have I3' := hide hz2
            clear hi0 hz0 hz1 hz2
            have bE := below_new U1 (.cells #[] 38)
            have OE : Hid ((U1.alloc (.cells #[] 38)).ownsRow U1.heap.size 38 2 (.slice (some ⟨U1.heap.size, 0, none⟩) 0 0) 0 []) := hide (own_empty _ _ _ (Nat.le_refl _))
            have TXE : Hid (SC (· < U1.heap.size) (U1.alloc (.cells #[] 38)) (.slice a1 C cc1) 2 (x.log.take C).length (its (x.log.take C))) := hide (SC.keep (fun b hb => ⟨hb, bE.block b hb⟩) (unhide TX))
            have eCl : (x.log.take C).length = C := by rw [List.length_take]; have := (unhide HNs2).2.1; omega
            rw [eCl] at TXE
            have p1 : Hid (0 + C ≤ maxLen) := hide (by unfold maxLen; omega)
            have p2 : Hid ((0 + C) * 16 ≤ 140737488355328) := hide (by omega)
            have p3 : Hid (U1.heap.size ≤ (U1.alloc (.cells #[] 38)).heap.size) := hide bE.size
            have r4' : (U1.alloc (.cells #[] 38)).cell? ⟨bA, 4, none⟩ = some (.slice a1 n1 cc1) := (World.cell?_of_block (a := ⟨bA, 4, none⟩) (bE.block bA (unhide XL).1)).trans r4
            have r5' : (U1.alloc (.cells #[] 38)).cell? ⟨bA, 5, none⟩ = some (.int .i64 (C : Int)) := (World.cell?_of_block (a := ⟨bA, 5, none⟩) (bE.block bA (unhide XL).1)).trans r5
            have HbE := hide bE
            clear bE
            go_wp2_with (at_builtin; refine wpList_append_sc rfl _ _ 30 rfl U1.heap.size 38 i0 (.agg #[.int .i64 0, .int .i64 0]) 2 16 Try.underlying30 (unhide I0') (unhide I1') (unhide I2') (unhide I3') rfl (by decide) none_T _ _ _ _ _ _ rfl rfl (unhide OE) (unhide TXE) (its_one _) (unhide p1) (unhide p2) (unhide p3) ?_)
            intro v3 w3 ho hg _
            obtain ⟨sa3, SL3, sc3, rfl, hSL3, _, _⟩ := SC.shp (SC.own ho)
            have hb3 : Below U1.heap.size U1 w3 := (unhide HbE).grown hg (unhide p3) (fun b hb => by cases hb; exact Nat.le_refl _)
            have ho2 : w3.ownsRow B 38 2 (.slice sa3 SL3 sc3) (x.log.take C).length (its (x.log.take C)) := by
              rw [eCl]
              exact RW.own_mono ho (unhide HQ2).szB
            obtain ⟨k1, k2, k3, k4⟩ := SU.put2 (unhide HQ2) hb3 ho2 (fun b hb => (World.ownsRow.lt ho b hb).1)
            have z1 := k4.at (j := 0) rfl
            have o1 := k4.thaw 0
            have i3 : BK (w3.setCell ⟨c1, 0, none⟩ (.slice sa3 SL3 sc3)) c0 3 #[.int .i64 T] := (k2 c0 (unhide I2).low (unhide H01).1 (unhide HNE)).2.trans (unhide I2)
            have ne3 : (Value.slice sa3 SL3 sc3).ownBlock ≠ some c0 := (k2 c0 (unhide I2).low (unhide H01).1 (unhide HNE)).1
            have xa3 := (k2 bA (unhide XL).1 (unhide XL).2.2.1 (unhide XL).2.2.2).2.trans (unhide XA)
            have y2 : (w3.setCell ⟨c1, 0, none⟩ (.slice sa3 SL3 sc3)).cell? ⟨bA, 2, none⟩ = some (.int .i64 x.term) := (show BK _ bA 33 _ from xa3).at rfl
            have y0 : (w3.setCell ⟨c1, 0, none⟩ (.slice sa3 SL3 sc3)).cell? ⟨c0, 0, none⟩ = some (.int .i64 T) := i3.at rfl
            have u0 : (w3.setCell ⟨c1, 0, none⟩ (.slice sa3 SL3 sc3)).frozen? ⟨c0, 0, none⟩ = false := i3.thaw 0
            have HS3 := hide k1
            have HF3 : Hid (FrC c0 c1 w (.slice sa0 SL0 sc0) (w3.setCell ⟨c1, 0, none⟩ (.slice sa3 SL3 sc3)) (.slice sa3 SL3 sc3)) := hide (FrC.trans (unhide V2).size (unhide F2) (FrC.of k2))
            have HV3 := hide ((unhide V2).trans k3)
            have HI3 := hide i3
            have HE3 := hide ne3
            clear k1 k2 k3 k4 i3 ne3 xa3 ho hg hb3 ho2 r2 r4 r5 r4' r5' v1
            go_upto_region 12 with fail
            generalize w3.setCell ⟨c1, 0, none⟩ (.slice sa3 SL3 sc3) = wS at HS3 HF3 HV3 HI3 y2 y0 u0 ⊢
            by_cases hT : T < x.term
            · have HL3 : Hid (Rf.SureS (k : Int) g x.term (x.log.take C) ∧ (x.log.take C).length ≤ 60) := hide ⟨(unhide HNs2).1, by omega⟩
              have hsc := grown_set wS ⟨c0, 0, none⟩ (.int .i64 x.term)
              have HI4 : Hid (BK (wS.setCell ⟨c0, 0, none⟩ (.int .i64 x.term)) c0 3 #[.int .i64 x.term]) := hide ((unhide HI3).set 0 _)
              have HS4 : Hid (SU B c1 (wS.setCell ⟨c0, 0, none⟩ (.int .i64 x.term)) (.slice sa3 SL3 sc3) (x.log.take C)) := hide ((unhide HS3).same (hsc.block c1 (unhide HS3).blk.low (fun e => (unhide H01).1 (by cases e; rfl))) (fun b hb => hsc.block b (World.ownsRow.lt (unhide HS3).row b hb).2 (fun e => unhide HE3 (by cases e; exact hb))))
              have HF4 := hide (FrC.trans (unhide HV3).size (unhide HF3) (FrC.set c0 c1 wS (.slice sa3 SL3 sc3) (.int .i64 x.term)))
              have HV4 : Hid (Below B w (wS.setCell ⟨c0, 0, none⟩ (.int .i64 x.term))) := hide ((unhide HV3).setCell (unhide H01).2.2 _)
              clear hsc
              go_wp2
              go_roundw
              case rel => exact ⟨j + 1, by omega, by go_num, _, _, x.term, HI4, HS4, HE3, HL3, HF4, HV4⟩
              case measure => simp [intOf]; omega
            · have HL3 : Hid (Rf.SureS (k : Int) g T (x.log.take C) ∧ (x.log.take C).length ≤ 60) := hide ⟨(unhide HNs2).1.le (by omega), by omega⟩
              go_wp2
              go_roundw
              case rel => exact ⟨j + 1, by omega, by go_num, _, _, T, HI3, HS3, HE3, HL3, HF3, HV3⟩
              case measure => simp [intOf]; omega
          · have g1 : ¬ (SL : Int) < (C : Int) := by omega
            clear HCc
            go_wp2
            go_roundw
            case rel => exact ⟨j + 1, by omega, by go_num, _, L, T, I2, HQ2, HNE, HL, F2, V2⟩
            case measure => simp [intOf]; omega
        · obtain rfl : j = k := by omega
          have hjj : ¬ (j : Int) < (j : Int) := by omega
          have hKp : Hid (∃ S', KeepComp B c0 c1 j l (i + 1) wr S' ∧ ∀ b, b < w.heap.size → ¬ S b → ¬ S' b ∧ wr.heap[b]? = w.heap[b]?) := hide (by
            obtain ⟨g', hmo, hg'⟩ := Rf.come_next6 (unhide HG)
            refine ⟨fun b => b = c0 ∨ b = c1 ∨ sv.ownBlock = some b, ⟨sv, L, g', T, fun _ => Iff.rfl, (unhide H01).1, unhide HI, unhide HQ, unhide HNE, (unhide H01).2.2, hg', (unhide HL).1.more hmo, (unhide HL).2⟩, fun b hb hs => ?_⟩
            have e1 : b ≠ c0 := fun e => hs ((unhide HS b).2 (.inl e))
            have e2 : b ≠ c1 := fun e => hs ((unhide HS b).2 (.inr (.inl e)))
            have e3 : (Value.slice sa0 SL0 sc0).ownBlock ≠ some b := fun e => hs ((unhide HS b).2 (.inr (.inr e)))
            obtain ⟨p1, p2⟩ := unhide HF b hb e1 e2 e3
            exact ⟨fun q => q.elim e1 (fun q => q.elim e2 p1), p2⟩)
          go_wp2
          go_ret
          obtain ⟨S', k1, k2⟩ := unhide hKp
          exact ⟨rfl, unhide HV, S', k1, k2⟩

set_option maxHeartbeats 4000000 in
set_option maxRecDepth 100000 in
theorem complete_walk16 (n : Int) (lv : Value) (l : List Rf.Ev) (w : World) (hl : Ev' w lv l) :
    Calls Try.prog 6 #[.int .i64 n, lv] w fun e w' => e = .returned (.bool true) ∧ Below w.heap.size w w' := by
  have HL := hide hl
  obtain ⟨la, LL, lc, rfl, _, _, _⟩ := SC.shp hl
  clear hl
  have CA := hide (alive_any w)
  go_enter Try.func6, Try.ntmps6
  go_wp2_with fail
  refine (unhide CA).mono ?_
  rintro e w1 ⟨rfl, b1⟩
  obtain ⟨w2, hw2⟩ : ∃ w2, w2 = (w1.alloc (.cells #[.slice none 0 0] 30)).alloc (.cells #[.int .i64 0] 3) := ⟨_, rfl⟩
  have c2 : BK w2 w1.heap.size 30 #[.slice none 0 0] := by rw [hw2]; exact (BK.new _ _ _).keep (below_new _ _)
  have d2 : BK w2 (w1.heap.size + 1) 3 #[.int .i64 0] := by
    have := BK.new (w1.alloc (.cells #[.slice none 0 0] 30)) 3 #[.int .i64 0]
    rw [show (w1.alloc (.cells #[.slice none 0 0] 30)).heap.size = w1.heap.size + 1 by simp] at this
    rw [hw2]
    exact this
  have b2 : Below w1.heap.size w1 w2 := by rw [hw2]; exact (below_new _ _).alloc (by simp) _
  have B1 := hide (below_via b1 b2)
  have hB1 : Hid (w.heap.size ≤ w1.heap.size) := hide b1.size
  by_cases hgo : 1 ≤ n ∧ n ≤ 5 ∧ l.length ≤ 300
  · obtain ⟨N, rfl⟩ : ∃ N : Nat, n = (N : Int) := ⟨n.toNat, by omega⟩
    obtain ⟨g, hg⟩ := Rf.first_come (n := (N : Int)) (by omega) (by omega)
    have CT := hide (through_ClusterComplete w.heap.size N (.slice la LL lc) l (w1.heap.size + 1) w1.heap.size (KeepComp w.heap.size (w1.heap.size + 1) w1.heap.size N l) (fun b => b = w1.heap.size + 1 ∨ b = w1.heap.size ∨ (Value.slice none 0 0).ownBlock = some b) w2 (EV.keep (fun b hb => ⟨hb, (unhide B1).block b hb⟩) (unhide HL)) (by omega) (by omega) hgo.2.2 (unhide B1).size (keepComp_held _ _ _ _ _)
      ⟨.slice none 0 0, [], g, 0, fun _ => Iff.rfl, by omega, d2, ⟨c2, World.ownsRow_nil _ _ _ _, (by intro e; cases e), unhide hB1⟩, (by intro e; cases e), by have := unhide hB1; omega, by rw [show Rf.runW (N : Int) (l.take 0) = Rf.startW N by simp [Rf.runW]]; exact hg, .inl rfl, by simp⟩ (complete_look _ _ _ N l (by omega) (by omega)))
    clear b1 hgo CA hg c2 b2 d2
    go_upto_region 5 with fail
    rw [← hw2]
    clear hw2
    go_wp2_with fail
    refine (unhide CT).mono ?_
    rintro e w3 ⟨rfl, b3⟩
    have BE := hide ((unhide B1).trans b3)
    clear b3 CT
    go_wp2
    go_ret
    exact ⟨rfl, unhide BE⟩
  · have CT := hide (through_ClusterComplete_no n (.slice la LL lc) l (w1.heap.size + 1) w1.heap.size w2 (EV.keep (kept (unhide B1)) (unhide HL)) hgo)
    clear b1 hgo CA c2 b2 d2
    go_upto_region 5 with fail
    rw [← hw2]
    clear hw2
    go_wp2_with fail
    refine (unhide CT).mono ?_
    rintro e w3 ⟨rfl, b3⟩
    have BE := hide (below_via (unhide B1) b3)
    clear b3 CT
    go_wp2
    go_ret
    exact ⟨rfl, unhide BE⟩

end Go.Proofs.Ytipneeeahndonaa.CL

namespace Go.Proofs.Ytipneeeahndonaa.clusterCompleteDone
open Go.ChangeShapes Go.WideShapes Go.ChangeAt Go.RowKit Go.Joins
open Go.Proofs.Ytipneeeahndonaa Go.Proofs.Ytipneeeahndonaa.CL

theorem own : ownKnob Try.prog.godebug = none := by kernel_rfl

set_option maxRecDepth 100000 in
theorem lifted (os : Os) (started : os.Started) (H : Type) (enc : TypeId × Value → H) :
    ReturnsInHanded {} Try.checked os 6 .any (Rows.clusterCompleteSpec.pre6 enc Try.prog Try.f6 Rows.clusterCompleteRow.domain false) (Rows.clusterCompleteSpec.post enc Try.prog Try.f6 false true false false) := by
  refine returnsInHanded_of_change (C := Try.checked) own started (by kernel_rfl) Try.func6
    (ChangeSpec.witness6 (enc := enc) (C := Try.checked) false ⟨#[], #[.int .i64 0, .slice none 0 0], []⟩ 8 (by kernel_rfl) (by kernel_rfl) (by kernel_rfl) (by kernel_rfl)) ?_
  intro W base args ds gs before hval0 hW _ _
  have hval : ∀ (j : Nat) t v, Try.f6.params[j]? = some t → args[j]? = some v → Value.okWide Try.prog W .any base t v := hval0
  have hW' := hW
  obtain ⟨p, q, hA0, hV, rfl, hfz, hnd⟩ := hW
  have hA : DataW.TrodAll enc Try.prog W 0 (fun _ => true) true Try.f6.params.toList args.toList ds p := hA0
  rw [Try.params6] at hA hval
  obtain ⟨v0, vs0, d0, ds0, p0, q0, hargs, rfl, rfl, h0, r0⟩ := trodAll_cons hA
  obtain ⟨v1, vs1, d1, ds1, p1, q1, rfl, rfl, rfl, h1, r1⟩ := trodAll_cons r0
  obtain ⟨rfl, rfl, rfl⟩ := trodAll_nil r1
  obtain rfl : args = #[v0, v1] := by cases args; simp_all
  obtain ⟨rfl, rfl⟩ := trodVars_none hV
  simp only [List.append_nil] at hW'
  have hlt := fun x hx => hW'.lt x hx
  simp only [List.mem_append] at hlt
  have l0 : ∀ x ∈ p0, x.block < W.heap.size := fun x hx => by simpa using hlt x (by simp [hx])
  have k0 := h0
  obtain ⟨t0, rfl⟩ := okWide_int Try.underlying3 (hval 0 3 v0 rfl rfl)
  obtain ⟨f0, hf0⟩ := h0
  obtain ⟨z0, e0, _⟩ := DataW.trod_int Try.underlying3 hf0
  simp [Value.cells] at e0
  subst e0
  have l1 : ∀ x ∈ p1, x.block < W.heap.size := fun x hx => by simpa using hlt x (by simp [hx])
  have k1 := h1
  obtain ⟨t1, m1⟩ := events_value (hval 1 22 v1 rfl rfl) h1
  clear hA0 hval0 hlt
  refine (complete_walk16 t0 v1 t1 W m1 ).mono fun e W' ⟨he, bel⟩ => ?_
  subst he
  exact ⟨_, rfl, _, _, _, [], _, [], hW', trodAll_mk1 (shut_bool Try.underlying4 _), (trodAll_cons_mk (Below.trod laidOut16 (by kernel_rfl) (of_decide_eq_true (by kernel_rfl)) k0 bel l0) (trodAll_cons_mk (Below.trod laidOut16 (by kernel_rfl) (of_decide_eq_true (by kernel_rfl)) k1 bel l1) trodAll_mk0)), rfl, bel.frame _, fun h => by cases h⟩

theorem over : Rows.clusterCompleteRow.holds Try.pinned (OpenSpec.ofChange Rows.clusterCompleteSpec) :=
  OpenClaim.holds_of_wide 6 Try.f6 rfl rfl rfl rfl rfl rfl rfl ⟨rfl, rfl, rfl, rfl, rfl⟩ rfl rfl rfl rfl rfl (by kernel_rfl) Try.func6 (by kernel_rfl)
    (of_decide_eq_true (by kernel_rfl)) (by unfold Func.isWrapper; first | (rw [if_pos (by decide +kernel)]; kernel_rfl) | (rw [if_neg (by decide +kernel)]; exact ⟨rfl, rfl⟩))
    (fun os started H enc _ => lifted os started H enc)
end Go.Proofs.Ytipneeeahndonaa.clusterCompleteDone
namespace Go.Proofs.Ytipneeeahndonaa
theorem clusterComplete_holds : Rows.ClusterCompleteSaid := clusterCompleteDone.over
end Go.Proofs.Ytipneeeahndonaa
