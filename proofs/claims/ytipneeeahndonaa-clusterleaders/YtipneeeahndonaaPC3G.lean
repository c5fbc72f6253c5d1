/- Of no term there were ever two leaders, for every number of nodes and every row of events; no conditions. -/
import Derived.Test.YtipneeeahndonaaCRG
import Derived.MapKept
import Derived.MapFrom
import Derived.Carry
import Derived.Test.YtipneeeahndonaaRows
import Derived.ProofKit
import Derived.OpenShut
import Derived.ChangeOld
import Derived.Lib.SmallJoins
namespace Go.Proofs.Ytipneeeahndonaa.CL
open Go.RowKit

set_option maxHeartbeats 4000000 in
set_option maxRecDepth 100000 in
theorem through_ClusterLeaders_no (n : Int) (lv : Value) (l : List Rf.Ev) (c0 : Nat) (w : World) (hl : Ev' w lv l) (hno : ¬ (1 ≤ n ∧ n ≤ 5 ∧ l.length ≤ 300)) :
    Calls Try.prog 10 #[.int .i64 n, lv, .func (.func 11) #[] #[.pointer (some ⟨c0, 0, none⟩)]] w fun e w' => e = .returned (.bool true) ∧ Below w.heap.size w w' := by
  obtain ⟨la, LL, lc, rfl, hLL, hlc, _⟩ := SC.shp hl
  clear hl
  by_cases h15 : 1 ≤ n ∧ n ≤ 5
  · have h3 : (300 : Int) < (LL : Int) := by have := unhide hLL; omega
    obtain ⟨N, rfl⟩ : ∃ N : Nat, n = (N : Int) := ⟨n.toNat, by omega⟩
    have CS := hide (start_good (A := fun _ => True) raft_rc N w (fun _ _ => trivial) (by omega) (by omega))
    clear hno h15
    go_enter Try.func10, Try.ntmps10
    go_wp2_with fail
    refine (unhide CS).mono ?_
    rintro e w1 ⟨v1, rfl, hv1, b1⟩
    obtain ⟨nv1, tv1, rfl, ⟨nc1, n1, _⟩, ⟨tc1, t1, _⟩⟩ := hv1
    obtain ⟨na, NL, ncap, rfl, _, _, _⟩ := SC.shp n1
    obtain ⟨ta, TL, tcap, rfl, _, _, _⟩ := SC.shp t1
    have BE := hide (below_via b1 (below_new w1 (.cells #[.slice na NL ncap, .slice ta TL tcap] 29)))
    clear n1 t1 b1 CS
    go_wp2
    go_ret
    exact ⟨rfl, unhide BE⟩
  · have CS := hide (start_bad n w h15)
    clear hno h15
    go_enter Try.func10, Try.ntmps10
    go_wp2_with fail
    refine (unhide CS).mono ?_
    rintro e w1 ⟨rfl, b1⟩
    have BE := hide (below_via b1 (below_new w1 (.cells #[.slice none 0 0, .slice none 0 0] 29)))
    clear b1 CS
    go_wp2
    go_ret
    exact ⟨rfl, unhide BE⟩

set_option maxHeartbeats 4000000 in
set_option maxRecDepth 100000 in
theorem through_ClusterLeaders (B N : Nat) (lv : Value) (l : List Rf.Ev) (c0 : Nat) (I : Nat → World → (Nat → Prop) → Prop) (S : Nat → Prop) (w : World) (hl : EV (· < B) w lv l) (h1 : 1 ≤ N) (h5 : N ≤ 5) (h300 : l.length ≤ 300) (hB : B ≤ w.heap.size) (hI : Held B I) (h0 : I 0 w S) (hk : Looks 11 #[.pointer (some ⟨c0, 0, none⟩)] B I N l) :
    Calls Try.prog 10 #[.int .i64 (N : Int), lv, .func (.func 11) #[] #[.pointer (some ⟨c0, 0, none⟩)]] w fun e w' => e = .returned (.bool true) ∧ Below B w w' := by
  have HL := hide hl
  obtain ⟨la, LL, lc, rfl, hLL, hlc, _⟩ := SC.shp hl
  clear hl
  have HI := hide hI
  have HK := hide hk
  have HB := hide hB
  have HS0 := hide h0
  have HFit : Hid (∀ k, FitW (Rf.runW (N : Int) (l.take k))) := hide (fun k => by
    obtain ⟨g, hg⟩ := Rf.run_come (n := (N : Int)) (by omega) (by omega) (l.take k)
    exact FitW.of hg (by omega))
  have CS := hide (start_good (A := fun b => ¬ S b) raft_rc N w (fun b hb q => by have := (hI.low 0 w S h0 b q).2; omega) h1 h5)
  have h3' : ¬ (300 : Int) < (LL : Int) := by have := unhide hLL; omega
  have hL300 : LL ≤ 300 := by have := unhide hLL; omega
  clear hI hk hB h0
  go_enter Try.func10, Try.ntmps10
  go_wp2_with fail
  refine (unhide CS).mono ?_
  rintro e w1 ⟨v1, rfl, hv1, b1⟩
  obtain ⟨nv1, tv1, rfl, ⟨nc1, n1, _⟩, ⟨tc1, t1, _⟩⟩ := id hv1
  obtain ⟨na, NL, ncap, rfl, _, _, _⟩ := SC.shp n1
  obtain ⟨ta, TL, tcap, rfl, _, _, _⟩ := SC.shp t1
  obtain ⟨w2, hw2⟩ : ∃ w2, w2 = w1.alloc (.cells #[.slice na NL ncap, .slice ta TL tcap] 29) := ⟨_, rfl⟩
  have b2 : Below w1.heap.size w1 w2 := by rw [hw2]; exact below_new _ _
  have A0 : Hid (BK w2 w1.heap.size 29 #[.slice na NL ncap, .slice ta TL tcap]) := hide (by rw [hw2]; exact BK.new _ _ _)
  have b12 := below_via b1 b2
  have HV2 : Hid (∃ S, I 0 w2 S ∧ ¬ S w1.heap.size ∧ Wv (fun b => ¬ S b) w2 #[.slice na NL ncap, .slice ta TL tcap] (Rf.runW (N : Int) (l.take 0))) := hide (by
    have hlow := (unhide HI).low 0 w S (unhide HS0)
    refine ⟨S, (unhide HI).mono 0 w w2 S (unhide HS0) b12.size (fun b hb => b12.block b (hlow b hb).2), fun q => ?_, ?_⟩
    · have := (hlow _ q).2; have := b1.size; omega
    · rw [show Rf.runW (N : Int) (l.take 0) = Rf.startW N by simp [Rf.runW]]
      exact hv1.below b2)
  have HQ : Hid (B ≤ w1.heap.size) := hide (Nat.le_trans (unhide HB) b1.size)
  have B2 := hide (b12.mono (unhide HB))
  clear n1 t1 hv1 b1 b2 b12 CS HS0
  go_upto_region 2 with fail
  rw [← hw2]
  clear hw2
  generalize w1.heap.size = qb at A0 HV2 HQ ⊢
  go_wp2_with fail
  go_loopw [9] (fun i wr => ∃ k : Nat, k ≤ LL ∧ i = .int .i64 (k : Int) ∧ ∃ na NL ncap ta TL tcap, Hid (BK wr qb 29 #[.slice na NL ncap, .slice ta TL tcap]) ∧ Hid (∃ S, I k wr S ∧ ¬ S qb ∧ Wv (fun b => ¬ S b) wr #[.slice na NL ncap, .slice ta TL tcap] (Rf.runW (N : Int) (l.take k))) ∧ Hid (Below B w wr)) (fun i _ => LL - (intOf i).toNat)
  case atStart => exact ⟨0, Nat.zero_le _, rfl, _, _, _, _, _, _, A0, HV2, B2⟩
  case round =>
    obtain ⟨k, hk, rfl, na', NL', ncap', ta', TL', tcap', HA, HV, HW⟩ := hrel
    obtain ⟨S1, i1, s1, hv⟩ := unhide HV
    have a0 : wr.cell? ⟨qb, 0, none⟩ = some (.slice na' NL' ncap') := (unhide HA).at rfl
    have a1 : wr.cell? ⟨qb, 1, none⟩ = some (.slice ta' TL' tcap') := (unhide HA).at rfl
    have CL := hide (unhide HK k wr _ S1 (by have := unhide hLL; omega) (Nat.le_trans (unhide HB) (unhide HW).size) hv i1)
    have HV1 := hide hv
    have QL := hide (And.intro (unhide HA).low s1)
    clear hv i1 s1 HV
    go_wp2_with fail
    refine (unhide CL).mono ?_
    rintro e w3 ⟨rfl, b3, S3, i3, k3⟩
    have HA3 := hide (show BK w3 qb 29 #[.slice na' NL' ncap', .slice ta' TL' tcap'] from (k3 qb (unhide QL).1 (unhide QL).2).2.trans (unhide HA))
    have hq3 := (k3 qb (unhide QL).1 (unhide QL).2).1
    have hv3 : Wv (fun b => ¬ S3 b) w3 #[.slice na' NL' ncap', .slice ta' TL' tcap'] (Rf.runW (N : Int) (l.take k)) := WV.keep (fun b hb => ⟨⟨Nat.lt_of_lt_of_le hb.1 b3.size, (k3 b hb.1 hb.2).1⟩, (k3 b hb.1 hb.2).2⟩) (unhide HV1)
    have W3 := hide ((unhide HW).trans b3)
    have HI3 := hide (And.intro i3 (And.intro hq3 hv3))
    clear b3 i3 k3 hq3 hv3 a0 a1 CL HV1 QL
    by_cases hkl : k = LL
    · subst hkl
      clear HA HA3
      go_wp2
      go_ret
      exact ⟨rfl, unhide W3⟩
    · have hne : ((k : Int) == (LL : Int)) = false := by rw [beq_eq_false_iff_ne]; omega
      have hlt : k < LL := by omega
      have hlt' : (k : Int) < (LL : Int) := by omega
      obtain ⟨ev, hx⟩ : ∃ ev, l[k]? = some ev := ⟨_, List.getElem?_eq_getElem (by have := unhide hLL; omega)⟩
      have HLr : EV (· < B) w3 (.slice la LL lc) l := EV.keep (fun b hb => ⟨hb, (unhide W3).block b hb⟩) (unhide HL)
      obtain ⟨b, off, rfl, _, d0, d1, d2⟩ := HLr.at hx
      have a0 : w3.cell? ⟨qb, 0, none⟩ = some (.slice na' NL' ncap') := (unhide HA3).at rfl
      have a1 : w3.cell? ⟨qb, 1, none⟩ = some (.slice ta' TL' tcap') := (unhide HA3).at rfl
      have hrt := Rf.run_take (N : Int) l hx
      have hlow := hide ((unhide HI).low k.succ w3 S3 (unhide HI3).1)
      have CP := hide (step_any (A := fun b => ¬ S3 b) (Rf.runW (N : Int) (l.take k)) _ ev.kind ev.node ev.pick w3.drew (fun b hb q => by have : b < w3.heap.size := (unhide hlow b q).2; have hb' : w3.heap.size ≤ b := hb; omega) ((unhide HI3).2.2.below (below_drew w3)) (unhide HFit k) (by rw [show (⟨ev.kind, ev.node, ev.pick⟩ : Rf.Ev) = ev from rfl, ← hrt]; exact unhide HFit (k + 1)))
      rw [show (⟨ev.kind, ev.node, ev.pick⟩ : Rf.Ev) = ev from rfl, ← hrt] at CP
      have hk1 : IntKind.i64.wrap ((k : Int) + 1) = ((k + 1 : Nat) : Int) := wrap_i64 (by omega) (by omega)
      clear HLr HA hrt hx
      go_wp2_with fail
      go_region_with (go_at_call 21; (with_reducible refine (unhide CP).mono ?_); rintro e w4 ⟨v4, rfl, hv4, b4x⟩; have b4 : Below w3.heap.size w3 w4 := (below_drew w3).trans b4x; obtain ⟨nv4, tv4, rfl, ⟨nc4, n4, _⟩, ⟨tc4, t4, _⟩⟩ := id hv4; obtain ⟨na4, NL4, ncap4, rfl, _, _, _⟩ := SC.shp n4; obtain ⟨ta4, TL4, tcap4, rfl, _, _, _⟩ := SC.shp t4; have A4 := (unhide HA3).keep b4; clear a0 a1; have a0 := A4.at (j := 0) rfl; have a1 := A4.at (j := 1) rfl; have f0 := A4.thaw 0; have f1 := A4.thaw 1)
      all_goals
        have SB4 : SB w4 qb := ⟨_, _, _, _, _, _, _, A4⟩
        have hz : ((w4.setCell ⟨qb, 0, none⟩ (.slice na4 NL4 ncap4)).setCell ⟨qb, 1, none⟩ (.slice ta4 TL4 tcap4)).heap.size = w4.heap.size := by simp [World.setCell]
        have hs : ∀ b, b ≠ qb → ((w4.setCell ⟨qb, 0, none⟩ (.slice na4 NL4 ncap4)).setCell ⟨qb, 1, none⟩ (.slice ta4 TL4 tcap4)).heap[b]? = w4.heap[b]? := fun b hn => (Below.heap_setCell _ ⟨qb, 1, none⟩ _ b hn).trans (Below.heap_setCell _ ⟨qb, 0, none⟩ _ b hn)
        have Y0 : Hid (BK ((w4.setCell ⟨qb, 0, none⟩ (.slice na4 NL4 ncap4)).setCell ⟨qb, 1, none⟩ (.slice ta4 TL4 tcap4)) qb 29 #[.slice na4 NL4 ncap4, .slice ta4 TL4 tcap4]) := hide ((A4.set 0 _).set 1 _)
        have Y1 : Hid (∃ S, I (k + 1) ((w4.setCell ⟨qb, 0, none⟩ (.slice na4 NL4 ncap4)).setCell ⟨qb, 1, none⟩ (.slice ta4 TL4 tcap4)) S ∧ ¬ S qb ∧ Wv (fun b => ¬ S b) ((w4.setCell ⟨qb, 0, none⟩ (.slice na4 NL4 ncap4)).setCell ⟨qb, 1, none⟩ (.slice ta4 TL4 tcap4)) #[.slice na4 NL4 ncap4, .slice ta4 TL4 tcap4] (Rf.runW (N : Int) (l.take (k + 1)))) := hide ⟨S3, (unhide HI).mono (k + 1) w3 _ S3 (unhide HI3).1 (by rw [hz]; exact b4.size) (fun b hb => (hs b (fun e => (unhide HI3).2.1 (e ▸ hb))).trans (b4.block b (unhide hlow b hb).2)), (unhide HI3).2.1, wv_put SB4 hv4 _ _⟩
        have Y2 : Hid (Below B w ((w4.setCell ⟨qb, 0, none⟩ (.slice na4 NL4 ncap4)).setCell ⟨qb, 1, none⟩ (.slice ta4 TL4 tcap4))) := hide ((((unhide W3).trans (b4.mono (Nat.le_trans (unhide HB) (unhide W3).size))).setCell (unhide HQ) _).setCell (unhide HQ) _)
        clear SB4 hz hs hv4 b4 b4x n4 t4 A4 a0 a1 f0 f1 d0 d1 d2 CP
        go_wp2
        go_roundw
        case rel => exact ⟨k + 1, by omega, by go_num, _, _, _, _, _, _, Y0, Y1, Y2⟩
        case measure => simp [intOf]; omega

end Go.Proofs.Ytipneeeahndonaa.CL

namespace Go.Proofs.Ytipneeeahndonaa.CL
open Go.RowKit Go.MapKept

/-- a map from numbers in block b, as a function -/
structure MapI (b : Nat) (f : Int → Option Value) (w : World) : Prop where
  low : b < w.heap.size
  map : ∃ es c, w.heap[b]? = some (.map es c) ∧ Stamped es c ∧ (∀ x ∈ es.toList, IsKey (.int .i64) x.key) ∧ ∀ s v, f s = some v ↔ ∃ e ∈ es.toList, e.key = .int .i64 s ∧ e.val = v
theorem MapI.new (w : World) : MapI w.heap.size (fun _ => none) (w.alloc (.map #[] 0)) :=
  ⟨by simp, #[], 0, by show (w.heap.push _)[w.heap.size]? = _; simp, stamped_empty 0, by simp, by simp⟩
theorem MapI.same {b : Nat} {f : Int → Option Value} {w w' : World} (h : MapI b f w) (hs : w.heap.size ≤ w'.heap.size) (hb : w'.heap[b]? = w.heap[b]?) : MapI b f w' := by
  obtain ⟨es, c, h1, h2⟩ := h.map
  exact ⟨Nat.lt_of_lt_of_le h.low hs, es, c, hb.trans h1, h2⟩
theorem MapI.keep {b : Nat} {f : Int → Option Value} {w w' : World} (h : MapI b f w) (hb : Below w.heap.size w w') : MapI b f w' := h.same hb.size (hb.block b h.low)
def updI (f : Int → Option Value) (s : Int) (v : Option Value) : Int → Option Value := fun x => if x = s then v else f x

theorem setBut {b : Nat} {w : World} (o : Obj) : w.grownBy { w with heap := w.heap.setIfInBounds b o } (some b) := by
  refine ⟨rfl, rfl, rfl, by simp, fun k _ hne => ?_⟩
  have hne' : ¬ b = k := fun e => hne (by rw [e])
  simp only [Array.getElem?_setIfInBounds, if_neg hne']
theorem key_at {es : Array MapEntry} {c : Nat} (hs : Stamped es c) {i j : Nat} {e e' : MapEntry} (hi : es[i]? = some e) (hj : es[j]? = some e') (hk : e.key = e'.key) : i = j := by
  have hn := hs.2.2
  have li : i < (es.toList.map (·.key)).length := by simpa using (Array.getElem?_eq_some_iff.1 hi).1
  have q : (es.toList.map (·.key))[i]? = (es.toList.map (·.key))[j]? := by simp [hi, hj, hk]
  exact (List.getElem?_inj li hn).1 q

section
variable {b : Nat} {f : Int → Option Value} {w : World} {t kt et : TypeId}
theorem MapI.put (h : MapI b f w) (hm : Try.prog.underlying t = some (.map kt et)) (hd : Try.prog.underlying kt = some (.int .i64)) (s : Int) (v : Value) :
    ∃ w2, (Instr.mapUpdate t (.map (some b)) (.int .i64 s) v).run Try.prog w = .ok () w2 ∧ MapI b (updI f s (some v)) w2 ∧ w.grownBy w2 (some b) := by
  obtain ⟨es, c, hb, hst, hks, hf⟩ := h.map
  have l := h.low
  have hk : IsKey (.int .i64) (.int .i64 s) := rfl
  rcases findNow_spec hk es.toList 0 hks with ⟨h1, hno⟩ | ⟨j, e, h1, h2, h3⟩
  · refine ⟨{ w with heap := w.heap.setIfInBounds b (.map (es.push ⟨.int .i64 s, v, c⟩) (c + 1)) }, by simp [Instr.mapUpdate, run_underlying hm, MapKept.run_getObj_map hb, run_checkKey hd hk, run_findKey hd h1, MapKept.run_setObj_map _ hb, Result.andThen], ⟨by simpa using l, es.push ⟨.int .i64 s, v, c⟩, c + 1, by simp [l], stamped_push hst hno, ?_, ?_⟩, setBut _⟩
    · intro x hx
      simp only [Array.toList_push, List.mem_append, List.mem_singleton] at hx
      rcases hx with hx | rfl
      · exact hks x hx
      · exact hk
    · intro s' v'
      unfold updI
      simp only [Array.toList_push, List.mem_append, List.mem_singleton]
      by_cases hs : s' = s
      · subst hs
        rw [if_pos rfl]
        constructor
        · intro q
          cases q
          exact ⟨_, Or.inr rfl, rfl, rfl⟩
        · rintro ⟨x, hx | rfl, q1, q2⟩
          · exact absurd q1 (hno x hx)
          · rw [← q2]
      · rw [if_neg hs, hf]
        constructor
        · rintro ⟨x, hx, q⟩
          exact ⟨x, Or.inl hx, q⟩
        · rintro ⟨x, hx | rfl, q1, q2⟩
          · exact ⟨x, hx, q1, q2⟩
          · exact absurd (by simpa using q1.symm) hs
  · have hj : es[j]? = some e := by simpa using h2
    have hkey : ∀ e', es[j]? = some e' → ({ e' with key := .int .i64 s, val := v } : MapEntry).key = e'.key := fun e' he' => by rw [hj] at he'; cases he'; exact h3.symm
    refine ⟨{ w with heap := w.heap.setIfInBounds b (.map (es.modify j fun e => { e with key := .int .i64 s, val := v }) c) }, by simp [Instr.mapUpdate, run_underlying hm, MapKept.run_getObj_map hb, run_checkKey hd hk, run_findKey hd h1, hj, h3, run_keyThatStays hk, MapKept.run_setObj_map _ hb, Result.andThen], ⟨by simpa using l, es.modify j fun e => { e with key := .int .i64 s, val := v }, c, by simp [l], stamped_modify hst _ _ (fun _ _ => rfl) (fun e' _ he' => hkey e' he'), isKey_modify hks _ _ hkey, ?_⟩, setBut _⟩
    intro s' v'
    unfold updI
    have hmem : ∀ x, x ∈ (es.modify j fun e => { e with key := .int .i64 s, val := v }).toList ↔ (x = { e with key := .int .i64 s, val := v }) ∨ ∃ i, i ≠ j ∧ es[i]? = some x := by
      intro x
      rw [Array.mem_toList_iff, Array.mem_iff_getElem?]
      constructor
      · rintro ⟨i, hi⟩
        rw [Array.getElem?_modify] at hi
        by_cases hij : j = i
        · subst hij
          rw [if_pos rfl, hj] at hi
          exact Or.inl (by simpa using hi.symm)
        · rw [if_neg hij] at hi
          exact Or.inr ⟨i, fun q => hij q.symm, hi⟩
      · rintro (rfl | ⟨i, hij, hi⟩)
        · exact ⟨j, by rw [Array.getElem?_modify, if_pos rfl, hj]; rfl⟩
        · exact ⟨i, by rw [Array.getElem?_modify, if_neg (fun q => hij q.symm), hi]⟩
    by_cases hs : s' = s
    · subst hs
      rw [if_pos rfl]
      constructor
      · intro q
        cases q
        exact ⟨_, (hmem _).2 (Or.inl rfl), rfl, rfl⟩
      · rintro ⟨x, hx, q1, q2⟩
        rcases (hmem x).1 hx with rfl | ⟨i, hij, hi⟩
        · rw [← q2]
        · exact absurd (key_at hst hi hj (q1.trans h3.symm)) hij
    · rw [if_neg hs, hf]
      constructor
      · rintro ⟨x, hx, q1, q2⟩
        obtain ⟨i, hi⟩ := Array.mem_iff_getElem?.1 (Array.mem_toList_iff.1 hx)
        refine ⟨x, (hmem x).2 (Or.inr ⟨i, ?_, hi⟩), q1, q2⟩
        rintro rfl
        rw [hj] at hi
        cases hi
        rw [h3] at q1
        exact hs (by simpa using q1.symm)
      · rintro ⟨x, hx, q1, q2⟩
        rcases (hmem x).1 hx with rfl | ⟨i, hij, hi⟩
        · exact absurd (by simpa using q1.symm) hs
        · exact ⟨x, Array.mem_toList_iff.2 (Array.mem_iff_getElem?.2 ⟨i, hi⟩), q1, q2⟩
theorem MapI.found (h : MapI b f w) {s : Int} {v : Value} (hf : f s = some v) : ∃ es c i, w.heap[b]? = some (.map es c) ∧ Instr.findNow (.int .i64) (.int .i64 s) es.toList 0 = some (some (i, v)) := by
  obtain ⟨es, c, hb, hst, hks, hg⟩ := h.map
  obtain ⟨x, hx, q1, q2⟩ := (hg s v).1 hf
  have hk : IsKey (.int .i64) (.int .i64 s) := rfl
  rcases findNow_spec hk es.toList 0 hks with ⟨h1, hno⟩ | ⟨j, e, h1, h2, h3⟩
  · exact absurd q1 (hno x hx)
  · obtain ⟨i, hi⟩ := Array.mem_iff_getElem?.1 (Array.mem_toList_iff.1 hx)
    have hj : es[j]? = some e := by simpa using h2
    obtain rfl := key_at hst hi hj (q1.trans h3.symm)
    rw [hj] at hi
    cases hi
    exact ⟨es, c, _, hb, by rw [h1, q2]⟩
theorem MapI.lost (h : MapI b f w) {s : Int} (hf : f s = none) : ∃ es c, w.heap[b]? = some (.map es c) ∧ Instr.findNow (.int .i64) (.int .i64 s) es.toList 0 = some none := by
  obtain ⟨es, c, hb, hst, hks, hg⟩ := h.map
  have hk : IsKey (.int .i64) (.int .i64 s) := rfl
  rcases findNow_spec hk es.toList 0 hks with ⟨h1, hno⟩ | ⟨j, e, h1, h2, h3⟩
  · exact ⟨es, c, hb, h1⟩
  · have := (hg s e.val).2 ⟨e, List.mem_of_getElem? h2, h3, rfl⟩
    rw [hf] at this
    cases this
theorem MapI.look (h : MapI b f w) (hm : Try.prog.underlying t = some (.map kt et)) (hd : Try.prog.underlying kt = some (.int .i64)) {s : Int} {v : Value} (hf : f s = some v) :
    (Instr.lookup t (.map (some b)) (.int .i64 s) true).run Try.prog w = .ok (.tuple #[v, .bool true]) w := by
  obtain ⟨es, c, i, hb, h1⟩ := h.found hf
  have hk : IsKey (.int .i64) (.int .i64 s) := rfl
  simp [Instr.lookup, run_underlying hm, MapKept.run_getObj_map hb, run_checkKey hd hk, run_findKey hd h1, Result.andThen]
theorem MapI.miss (h : MapI b f w) (hm : Try.prog.underlying t = some (.map kt et)) (hd : Try.prog.underlying kt = some (.int .i64)) {s : Int} {z : Value} (hz : (zeroValue et).run Try.prog w = .ok z w) (hf : f s = none) :
    (Instr.lookup t (.map (some b)) (.int .i64 s) true).run Try.prog w = .ok (.tuple #[z, .bool false]) w := by
  obtain ⟨es, c, hb, h1⟩ := h.lost hf
  have hk : IsKey (.int .i64) (.int .i64 s) := rfl
  simp [Instr.lookup, run_underlying hm, MapKept.run_getObj_map hb, run_checkKey hd hk, run_findKey hd h1, hz, Result.andThen]
theorem MapI.look1 (h : MapI b f w) (hm : Try.prog.underlying t = some (.map kt et)) (hd : Try.prog.underlying kt = some (.int .i64)) {s : Int} {v : Value} (hf : f s = some v) :
    (Instr.lookup t (.map (some b)) (.int .i64 s) false).run Try.prog w = .ok v w := by
  obtain ⟨es, c, i, hb, h1⟩ := h.found hf
  have hk : IsKey (.int .i64) (.int .i64 s) := rfl
  simp [Instr.lookup, run_underlying hm, MapKept.run_getObj_map hb, run_checkKey hd hk, run_findKey hd h1, Result.andThen]
theorem MapI.miss1 (h : MapI b f w) (hm : Try.prog.underlying t = some (.map kt et)) (hd : Try.prog.underlying kt = some (.int .i64)) {s : Int} {z : Value} (hz : (zeroValue et).run Try.prog w = .ok z w) (hf : f s = none) :
    (Instr.lookup t (.map (some b)) (.int .i64 s) false).run Try.prog w = .ok z w := by
  obtain ⟨es, c, hb, h1⟩ := h.lost hf
  have hk : IsKey (.int .i64) (.int .i64 s) := rfl
  simp [Instr.lookup, run_underlying hm, MapKept.run_getObj_map hb, run_checkKey hd hk, run_findKey hd h1, hz, Result.andThen]
end
end Go.Proofs.Ytipneeeahndonaa.CL

namespace Go.Proofs.Ytipneeeahndonaa.Rf

/-- what was known behind k steps is known behind one more -/
theorem come_next {N : Int} {l : List Ev} {i : Nat} {g : Gh} (h : Come N g (runW N (l.take i))) : ∃ g', More g g' ∧ Come N g' (runW N (l.take (i + 1))) := by
  cases hx : l[i]? with
  | some e =>
    rw [run_take N l hx]
    exact step_come h e
  | none =>
    have hl : l.length ≤ i := List.getElem?_eq_none_iff.1 hx
    rw [List.take_of_length_le hl] at h
    rw [List.take_of_length_le (by omega)]
    exact ⟨g, More.refl g, h⟩

end Go.Proofs.Ytipneeeahndonaa.Rf
namespace Go.Proofs.Ytipneeeahndonaa.CL
open Go.RowKit

theorem zero_int (w : World) : (zeroValue 3).run Try.prog w = .ok (.int .i64 0) w := by
  obtain ⟨i0, I0, I1, I2, I3⟩ := info_parts info_I
  simp [zeroValue, typeInfo, I0, I1]
/-- the leaders that a map has were those of their terms -/
def LedV (g : Rf.Gh) (f : Int → Option Value) : Prop := ∀ t v, f t = some v → ∃ k, v = .int .i64 k ∧ g.led t = some k
/-- the map of leaders is kept in two blocks -/
def KeepLed (B c0 : Nat) (N : Int) (l : List Rf.Ev) (i : Nat) (w : World) (S : Nat → Prop) : Prop :=
  ∃ mb f g, (∀ b, S b ↔ b = c0 ∨ b = mb) ∧ c0 ≠ mb ∧ BK w c0 24 #[.map (some mb)] ∧ MapI mb f w ∧ B ≤ c0 ∧ B ≤ mb ∧ Rf.Come N g (Rf.runW N (l.take i)) ∧ LedV g f
theorem keepLed_held (B c0 : Nat) (N : Int) (l : List Rf.Ev) : Held B (KeepLed B c0 N l) := by
  constructor
  · rintro i w w' S ⟨mb, f, g, h1, h2, h3, h4, h5⟩ hs hb
    exact ⟨mb, f, g, h1, h2, (hb c0 ((h1 c0).2 (.inl rfl))).trans h3, h4.same hs (hb mb ((h1 mb).2 (.inr rfl))), h5⟩
  · rintro i w S ⟨mb, f, g, h1, h2, h3, h4, h5, h6, _⟩ b hb
    rcases (h1 b).1 hb with rfl | rfl
    · exact ⟨h5, h3.low⟩
    · exact ⟨h6, h4.low⟩

set_option maxHeartbeats 8000000 in
set_option maxRecDepth 100000 in
theorem leaders_look (B c0 N : Nat) (l : List Rf.Ev) (h1 : 1 ≤ N) (h5 : N ≤ 5) : Looks 11 #[.pointer (some ⟨c0, 0, none⟩)] B (KeepLed B c0 N l) N l := by
  rintro i w v S _ hB hv ⟨mb, f0, g, hS, hcm, hc0, hm0, hBc, hBm, hg, hL⟩
  have hlen := hg.1.len
  have HLd := hide (fun (k : Nat) (x : Rf.Node) (hx : (Rf.runW (N : Int) (l.take i)).nodes[k]? = some x) (hr : x.role = 3) => Rf.leader_is hg.1 hx hr)
  have HG := hide hg
  generalize Rf.runW (N : Int) (l.take i) = W at hv hlen HLd
  clear hg
  obtain ⟨nv, tv, rfl, hN, ⟨tc, t1, _⟩⟩ := hv
  obtain ⟨ta, TL, tcap, rfl, hTL, _, _⟩ := SC.shp t1
  clear t1
  have hNs : NsV (fun b => b < w.heap.size ∧ b ≠ mb) w nv W.nodes := hN.keep fun b hb => ⟨⟨hb.1, fun e => hb.2 ((hS b).2 (.inr e))⟩, rfl⟩
  clear hN
  have hlN : W.nodes.length = N := by omega
  obtain ⟨b, off, cap, rfl, _, hcap, _⟩ := hNs.ex (by intro e; rw [e] at hlN; simp at hlN; omega)
  rw [hlN] at hcap hNs ⊢
  have HN := hide hNs
  have HLN := hide hlN
  have HS := hide hS
  have HBB := hide hB
  have HC0 := hide (And.intro hc0 (And.intro hcm (And.intro hBc hBm)))
  clear hNs hlN hS hB hlen hc0 hcm hBc hBm
  obtain ⟨U0, hU0⟩ : ∃ U0, U0 = w.alloc (.cells #[.slice (some ⟨b, off, none⟩) N cap, .slice ta TL tcap] 29) := ⟨_, rfl⟩
  have HB : Hid (Below w.heap.size w U0) := hide (by rw [hU0]; exact below_new _ _)
  have x0 : U0.cell? ⟨w.heap.size, 0, none⟩ = some (.slice (some ⟨b, off, none⟩) N cap) := by
    have : BK U0 w.heap.size 29 #[.slice (some ⟨b, off, none⟩) N cap, .slice ta TL tcap] := by rw [hU0]; exact BK.new _ _ _
    exact this.at rfl
  have M0 := hide (hm0.keep (unhide HB))
  have L0 := hide hL
  clear hm0 hL
  go_enter Try.func11, Try.ntmps11
  go_upto_region 1 with fail
  rw [← hU0]
  clear hU0
  go_wp2_with fail
  go_loopw [11] (fun i wr => ∃ k : Nat, k ≤ N ∧ i = .int .i64 (k : Int) ∧ ∃ f, Hid (MapI mb f wr) ∧ Hid (LedV g f) ∧ Hid (w.grownBy wr (some mb))) (fun i _ => N - (intOf i).toNat)
  case atStart => exact ⟨0, Nat.zero_le _, rfl, f0, M0, L0, hide (grown_below' (unhide HB) _)⟩
  case round =>
    obtain ⟨k, hk, rfl, f, HM, HL, HW⟩ := hrel
    clear x0
    by_cases hlt : k < N
    · have hi1 : (k : Int) < (N : Int) := by omega
      obtain ⟨x, hx⟩ : ∃ y, W.nodes[k]? = some y := ⟨_, List.getElem?_eq_getElem (by have := unhide HLN; omega)⟩
      obtain ⟨u, hNx, hat⟩ := (NsV.keep (Q := fun b => b < wr.heap.size ∧ b ≠ mb) (fun b hb => ⟨⟨Nat.lt_of_lt_of_le hb.1 (unhide HW).size, hb.2⟩, (unhide HW).block b hb.1 (fun e => hb.2 (by cases e; rfl))⟩) (unhide HN)).at hx
      obtain ⟨a1, n1, c1, a2, n2, c2, a3, n3, c3, a4, n4, c4, rfl⟩ := hNx.cellsC
      have d0 := hat 0 _ rfl
      have d1 := hat 1 _ rfl
      have d2 := hat 2 _ rfl
      have d3 := hat 3 _ rfl
      have d4 := hat 4 _ rfl
      have d5 := hat 5 _ rfl
      have d6 := hat 6 _ rfl
      have d7 := hat 7 _ rfl
      have d8 := hat 8 _ rfl
      have d9 := hat 9 _ rfl
      have d10 := hat 10 _ rfl
      rw [Nat.add_zero] at d0
      obtain ⟨U1, hU1⟩ : ∃ U, U = wr.alloc (.cells #[.int .i64 x.id, .int .i64 x.n, .int .i64 x.term, .int .i64 x.vote, .slice a1 n1 c1, .int .i64 x.commit, .int .i64 x.role, .int .i64 x.boss, .slice a2 n2 c2, .slice a3 n3 c3, .slice a4 n4 c4] 33) := ⟨_, rfl⟩
      have bn : Below wr.heap.size wr U1 := by rw [hU1]; exact below_new _ _
      have XA : Hid (BK U1 wr.heap.size 33 #[.int .i64 x.id, .int .i64 x.n, .int .i64 x.term, .int .i64 x.vote, .slice a1 n1 c1, .int .i64 x.commit, .int .i64 x.role, .int .i64 x.boss, .slice a2 n2 c2, .slice a3 n3 c3, .slice a4 n4 c4]) := hide (by rw [hU1]; exact BK.new _ _ _)
      have M1 := hide ((unhide HM).keep bn)
      have G1 : Hid (w.grownBy U1 (some mb)) := hide (grown_trans (unhide HW) (grown_below' bn _))
      have HX := hide hx
      have r6 : U1.cell? ⟨wr.heap.size, 6, none⟩ = some (.int .i64 x.role) := (unhide XA).at rfl
      clear hNx bn hat hx
      go_upto_region 4 with fail
      rw [← hU1]
      clear hU1 d0 d1 d2 d3 d4 d5 d6 d7 d8 d9 d10
      by_cases hr : x.role = 3
      · have r2 : U1.cell? ⟨wr.heap.size, 2, none⟩ = some (.int .i64 x.term) := (unhide XA).at rfl
        have r0 : U1.cell? ⟨wr.heap.size, 0, none⟩ = some (.int .i64 x.id) := (unhide XA).at rfl
        have q0 : U1.cell? ⟨c0, 0, none⟩ = some (.map (some mb)) := by
          have : BK U1 c0 24 #[.map (some mb)] := ((unhide G1).block c0 (unhide HC0).1.low (fun e => (unhide HC0).2.1 (by cases e; rfl))).trans (unhide HC0).1
          exact this.at rfl
        have hled := unhide HLd k x (unhide HX) hr
        obtain ⟨w2, hput, M2, g2⟩ := (unhide M1).put Try.underlying24 Try.underlying3 x.term (.int .i64 x.id)
        have L2 : Hid (LedV g (updI f x.term (some (.int .i64 x.id)))) := hide (fun t v ht => by
          unfold updI at ht
          split at ht
          · rename_i e
            cases ht
            exact ⟨x.id, rfl, by rw [e]; exact hled⟩
          · exact unhide HL t v ht)
        have M2' := hide M2
        have G2 : Hid (w.grownBy w2 (some mb)) := hide (grown_trans (unhide G1) g2)
        have hr3 : (x.role != 3) = false := by rw [hr]; rfl
        rw [hr] at r6
        cases hfx : f x.term with
        | some u =>
          obtain ⟨kk, hu, hkk⟩ := unhide HL _ _ hfx
          have ek : kk = x.id := by rw [hled] at hkk; exact (Option.some.inj hkk).symm
          have hlk := (unhide M1).look Try.underlying24 Try.underlying3 hfx
          rw [hu, ek] at hlk
          have hne : (x.id != x.id) = false := by simp
          clear hfx hu hkk ek hled M2 g2 hr
          go_wp2
          go_roundw
          case rel => exact ⟨k + 1, by omega, by go_num, _, M2', L2, G2⟩
          case measure => simp [intOf]; omega
        | none =>
          have hlk := (unhide M1).miss Try.underlying24 Try.underlying3 (zero_int _) hfx
          clear hfx hled M2 g2 hr
          go_wp2
          go_roundw
          case rel => exact ⟨k + 1, by omega, by go_num, _, M2', L2, G2⟩
          case measure => simp [intOf]; omega
      · have hr3 : (x.role != 3) = true := by simpa using hr
        have hr4 : (x.role == 3) = false := by simpa using hr
        clear hr
        go_wp2
        go_roundw
        case rel => exact ⟨k + 1, by omega, by go_num, f, M1, HL, G1⟩
        case measure => simp [intOf]; omega
    · obtain rfl : k = N := by omega
      have hkk : ¬ (k : Int) < (k : Int) := by omega
      have hW := unhide HW
      have hC := unhide HC0
      have hKp : KeepLed B c0 k l (i + 1) wr S := by
        obtain ⟨g', hmo, hg'⟩ := Rf.come_next (unhide HG)
        refine ⟨mb, f, g', unhide HS, hC.2.1, (hW.block c0 hC.1.low (fun e => hC.2.1 (by cases e; rfl))).trans hC.1, unhide HM, hC.2.2.1, hC.2.2.2, hg', fun t v ht => ?_⟩
        obtain ⟨kk, h1, h2⟩ := unhide HL t v ht
        exact ⟨kk, h1, hmo.led _ _ h2⟩
      have hBe : Below B w wr := (Below.refl B w).grown hW (unhide HBB) (fun b hb => by cases hb; exact hC.2.2.2)
      have HE := hide (And.intro hKp hBe)
      clear hKp hBe hW hC
      go_wp2
      go_ret
      refine ⟨rfl, (unhide HE).2, S, (unhide HE).1, fun b hb hs => ⟨hs, (unhide HW).block b hb (fun e => hs ((unhide HS b).2 (.inr (by cases e; rfl))))⟩⟩

set_option maxHeartbeats 4000000 in
set_option maxRecDepth 100000 in
theorem leaders_walk16 (n : Int) (lv : Value) (l : List Rf.Ev) (w : World) (hl : Ev' w lv l) :
    Calls Try.prog 3 #[.int .i64 n, lv] w fun e w' => e = .returned (.bool true) ∧ Below w.heap.size w w' := by
  have HL := hide hl
  obtain ⟨la, LL, lc, rfl, _, _, _⟩ := SC.shp hl
  clear hl
  have CA := hide (alive_any w)
  go_enter Try.func3, Try.ntmps3
  go_wp2_with fail
  refine (unhide CA).mono ?_
  rintro e w1 ⟨rfl, b1⟩
  obtain ⟨w2, hw2⟩ : ∃ w2, w2 = (w1.alloc (.map #[] 0)).alloc (.cells #[.map (some w1.heap.size)] 24) := ⟨_, rfl⟩
  have m2 : MapI w1.heap.size (fun _ => none) w2 := by rw [hw2]; exact (MapI.new w1).keep (below_new _ _)
  have c2 : BK w2 (w1.heap.size + 1) 24 #[.map (some w1.heap.size)] := by
    have := BK.new (w1.alloc (.map #[] 0)) 24 #[.map (some w1.heap.size)]
    rw [show (w1.alloc (.map #[] 0)).heap.size = w1.heap.size + 1 by simp] at this
    rw [hw2]
    exact this
  have b2 : Below w1.heap.size w1 w2 := by rw [hw2]; exact (below_new _ _).alloc (by simp) _
  have B1 := hide (below_via b1 b2)
  have hB1 : Hid (w.heap.size ≤ w1.heap.size) := hide b1.size
  by_cases hgo : 1 ≤ n ∧ n ≤ 5 ∧ l.length ≤ 300
  · obtain ⟨N, rfl⟩ : ∃ N : Nat, n = (N : Int) := ⟨n.toNat, by omega⟩
    obtain ⟨g, hg⟩ := Rf.first_come (n := (N : Int)) (by omega) (by omega)
    have CT := hide (through_ClusterLeaders w.heap.size N (.slice la LL lc) l (w1.heap.size + 1) (KeepLed w.heap.size (w1.heap.size + 1) N l) (fun b => b = w1.heap.size + 1 ∨ b = w1.heap.size) w2 (EV.keep (fun b hb => ⟨hb, (unhide B1).block b hb⟩) (unhide HL)) (by omega) (by omega) hgo.2.2 (unhide B1).size (keepLed_held _ _ _ _)
      ⟨w1.heap.size, fun _ => none, g, fun _ => Iff.rfl, by omega, c2, m2, by have := unhide hB1; omega, unhide hB1, by rw [show Rf.runW (N : Int) (l.take 0) = Rf.startW N by simp [Rf.runW]]; exact hg, fun _ _ h => by cases h⟩ (leaders_look _ _ N l (by omega) (by omega)))
    clear b1 hgo CA hg m2 c2 b2
    have hmm := @run_makeMap Try.prog
    go_upto_region 4 with fail
    rw [← hw2]
    clear hw2
    go_wp2_with fail
    refine (unhide CT).mono ?_
    rintro e w3 ⟨rfl, b3⟩
    have BE := hide ((unhide B1).trans b3)
    clear b3 CT
    go_wp2
    go_ret
    exact ⟨rfl, unhide BE⟩
  · have CT := hide (through_ClusterLeaders_no n (.slice la LL lc) l (w1.heap.size + 1) w2 (EV.keep (kept (unhide B1)) (unhide HL)) hgo)
    clear b1 hgo CA m2 c2 b2
    have hmm := @run_makeMap Try.prog
    go_upto_region 4 with fail
    rw [← hw2]
    clear hw2
    go_wp2_with fail
    refine (unhide CT).mono ?_
    rintro e w3 ⟨rfl, b3⟩
    have BE := hide (below_via (unhide B1) b3)
    clear b3 CT
    go_wp2
    go_ret
    exact ⟨rfl, unhide BE⟩

end Go.Proofs.Ytipneeeahndonaa.CL

namespace Go.Proofs.Ytipneeeahndonaa.clusterLeadersDone
open Go.ChangeShapes Go.WideShapes Go.ChangeAt Go.RowKit Go.Joins
open Go.Proofs.Ytipneeeahndonaa Go.Proofs.Ytipneeeahndonaa.CL

theorem own : ownKnob Try.prog.godebug = none := by kernel_rfl

set_option maxRecDepth 100000 in
theorem lifted (os : Os) (started : os.Started) (H : Type) (enc : TypeId × Value → H) :
    ReturnsInHanded {} Try.checked os 3 .any (Rows.clusterLeadersSpec.pre6 enc Try.prog Try.f3 Rows.clusterLeadersRow.domain false) (Rows.clusterLeadersSpec.post enc Try.prog Try.f3 false true false false) := by
  refine returnsInHanded_of_change (C := Try.checked) own started (by kernel_rfl) Try.func3
    (ChangeSpec.witness6 (enc := enc) (C := Try.checked) false ⟨#[], #[.int .i64 0, .slice none 0 0], []⟩ 8 (by kernel_rfl) (by kernel_rfl) (by kernel_rfl) (by kernel_rfl)) ?_
  intro W base args ds gs before hval0 hW _ _
  have hval : ∀ (j : Nat) t v, Try.f3.params[j]? = some t → args[j]? = some v → Value.okWide Try.prog W .any base t v := hval0
  have hW' := hW
  obtain ⟨p, q, hA0, hV, rfl, hfz, hnd⟩ := hW
  have hA : DataW.TrodAll enc Try.prog W 0 (fun _ => true) true Try.f3.params.toList args.toList ds p := hA0
  rw [Try.params3] at hA hval
  obtain ⟨v0, vs0, d0, ds0, p0, q0, hargs, rfl, rfl, h0, r0⟩ := trodAll_cons hA
  obtain ⟨v1, vs1, d1, ds1, p1, q1, rfl, rfl, rfl, h1, r1⟩ := trodAll_cons r0
  obtain ⟨rfl, rfl, rfl⟩ := trodAll_nil r1
  obtain rfl : args = #[v0, v1] := by cases args; simp_all
  obtain ⟨rfl, rfl⟩ := trodVars_none hV
  simp only [List.append_nil] at hW'
  have hlt := fun x hx => hW'.lt x hx
  simp only [List.mem_append] at hlt
  have l0 : ∀ x ∈ p0, x.block < W.heap.size := fun x hx => by simpa using hlt x (by simp [hx])
  have k0 := h0
  obtain ⟨t0, rfl⟩ := okWide_int Try.underlying3 (hval 0 3 v0 rfl rfl)
  obtain ⟨f0, hf0⟩ := h0
  obtain ⟨z0, e0, _⟩ := DataW.trod_int Try.underlying3 hf0
  simp [Value.cells] at e0
  subst e0
  have l1 : ∀ x ∈ p1, x.block < W.heap.size := fun x hx => by simpa using hlt x (by simp [hx])
  have k1 := h1
  obtain ⟨t1, m1⟩ := events_value (hval 1 22 v1 rfl rfl) h1
  clear hA0 hval0 hlt
  refine (leaders_walk16 t0 v1 t1 W m1 ).mono fun e W' ⟨he, bel⟩ => ?_
  subst he
  exact ⟨_, rfl, _, _, _, [], _, [], hW', trodAll_mk1 (shut_bool Try.underlying4 _), (trodAll_cons_mk (Below.trod laidOut16 (by kernel_rfl) (of_decide_eq_true (by kernel_rfl)) k0 bel l0) (trodAll_cons_mk (Below.trod laidOut16 (by kernel_rfl) (of_decide_eq_true (by kernel_rfl)) k1 bel l1) trodAll_mk0)), rfl, bel.frame _, fun h => by cases h⟩

theorem over : Rows.clusterLeadersRow.holds Try.pinned (OpenSpec.ofChange Rows.clusterLeadersSpec) :=
  OpenClaim.holds_of_wide 3 Try.f3 rfl rfl rfl rfl rfl rfl rfl ⟨rfl, rfl, rfl, rfl, rfl⟩ rfl rfl rfl rfl rfl (by kernel_rfl) Try.func3 (by kernel_rfl)
    (of_decide_eq_true (by kernel_rfl)) (by unfold Func.isWrapper; first | (rw [if_pos (by decide +kernel)]; kernel_rfl) | (rw [if_neg (by decide +kernel)]; exact ⟨rfl, rfl⟩))
    (fun os started H enc _ => lifted os started H enc)
end Go.Proofs.Ytipneeeahndonaa.clusterLeadersDone
namespace Go.Proofs.Ytipneeeahndonaa
theorem clusterLeaders_holds : Rows.ClusterLeadersSaid := clusterLeadersDone.over
end Go.Proofs.Ytipneeeahndonaa
