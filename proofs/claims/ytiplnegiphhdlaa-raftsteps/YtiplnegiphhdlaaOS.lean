/- Walks: the document's Sure again: its lists are those that were handed in. -/
import Derived.Test.YtiplnegiphhdlaaOA
namespace Go.Proofs.Ytiplnegiphhdlaa.R15
open Go.RowKit

set_option maxHeartbeats 4000000 in
set_option maxRecDepth 100000 in
theorem sure_new (P : Nat → Prop) (x : Rf.Node) (v : Array Value) (w : World) (hv : NV P w v x) (hP : ∀ c, P c → c < w.heap.size) (hS : Rf.Leads x) : Calls Try.prog 49 #[.agg v] w (PN P w (Rf.sure x)) := by
  have HP := hide hP
  clear hP
  obtain ⟨N, hN⟩ : ∃ N : Nat, x.n = (N : Int) := ⟨x.n.toNat, by have := hS.n.1; omega⟩
  obtain ⟨C, hC⟩ : ∃ C : Nat, x.commit = (C : Int) := ⟨x.commit.toNat, by have := hS.commit.1; omega⟩
  have hN1 : 1 ≤ N := by have := hS.n.1; omega
  have hN5 : N ≤ 5 := by have := hS.n.2; omega
  have hML0 : x.mtch.length = N := by have := hS.mlen; omega
  have hl60 := hS.log
  have hCL : C ≤ x.log.length := by have := hS.commit.2; omega
  clear hS
  obtain ⟨lv, vv, nv, mv, rfl, h2, h3, h4, h5⟩ := hv
  have H2 := hide h2
  have H3 := hide h3
  have H4 := hide h4
  have H5 := hide h5
  obtain ⟨la, LL, lc, rfl, hLL, _, _⟩ := SC.shp h2
  obtain ⟨va, VL, vc, rfl, hVL, _, _⟩ := SC.shp h3
  obtain ⟨na, NL, nc, rfl, hNL, _, _⟩ := SC.shp h4
  obtain ⟨ma, ML, mc, rfl, hML, _, _⟩ := SC.shp h5
  clear h2 h3 h4 h5
  have hMLN : ML = N := by rw [unhide hML]; exact hML0
  have hLb : LL ≤ 60 := by rw [unhide hLL]; exact hl60
  have hCL' : C ≤ LL := by rw [unhide hLL]; exact hCL
  have HN := hide hN
  have HC := hide hC
  have HML := hide hMLN
  rw [hN, hC]
  have CA := hide (fun (p : Nat) wx (hx : Below w.heap.size w wx) => at_any x.log (.slice la LL lc) p wx (TV.keep (keptN (unhide HP) hx) (unhide H2)))
  have CM := hide (fun (c : Int) (k : Nat) (hk : k ≤ 5) wx (hx : Below w.heap.size w wx) => most_any { x with commit := c } #[.int .i64 x.id, .int .i64 (N : Int), .int .i64 x.term, .int .i64 x.vote, .slice la LL lc, .int .i64 c, .int .i64 x.role, .int .i64 x.boss, .slice va VL vc, .slice na NL nc, .slice ma ML mc] k wx ⟨_, _, _, _, by rw [← hN], TV.keep (keptN (unhide HP) hx) (unhide H2), IV.keep (keptN (unhide HP) hx) (unhide H3), IV.keep (keptN (unhide HP) hx) (unhide H4), IV.keep (keptN (unhide HP) hx) (unhide H5)⟩ (by simp only; omega) (by simp only; omega) (by omega))
  simp only [hN] at CM
  clear hN hC hML0 hl60 hCL hMLN
  obtain ⟨W0, hW0⟩ : ∃ W0, W0 = (w.alloc (.cells #[.int .i64 x.id, .int .i64 (N : Int), .int .i64 x.term, .int .i64 x.vote, .slice la LL lc, .int .i64 (C : Int), .int .i64 x.role, .int .i64 x.boss, .slice va VL vc, .slice na NL nc, .slice ma ML mc] 25)).alloc (.cells #[.int .i64 0, .int .i64 0, .int .i64 0, .int .i64 0, .slice none 0 0, .int .i64 0, .int .i64 0, .int .i64 0, .slice none 0 0, .slice none 0 0, .slice none 0 0] 25) := ⟨_, rfl⟩
  have HB0 : Hid (Below w.heap.size w W0) := hide (by rw [hW0]; exact (below_new _ _).alloc (by simp) _)
  have HX0 : Hid (BK W0 w.heap.size 25 #[.int .i64 x.id, .int .i64 (N : Int), .int .i64 x.term, .int .i64 x.vote, .slice la LL lc, .int .i64 (C : Int), .int .i64 x.role, .int .i64 x.boss, .slice va VL vc, .slice na NL nc, .slice ma ML mc]) := hide (by rw [hW0]; exact (BK.new w _ _).keep (below_new _ _))
  have HR0 : Hid (BK W0 (w.heap.size + 1) 25 #[.int .i64 0, .int .i64 0, .int .i64 0, .int .i64 0, .slice none 0 0, .int .i64 0, .int .i64 0, .int .i64 0, .slice none 0 0, .slice none 0 0, .slice none 0 0]) := hide (by
    rw [hW0]
    exact BK.new' _ _ _ (by simp))
  have hS0 : W0.heap.size = w.heap.size + 2 := by rw [hW0]; simp
  go_enter Try.func49, Try.ntmps49
  go_wp2_with fail
  rw [← hW0]
  clear hW0
  go_loopw [3] (fun i wr => ∃ p : Nat, i = .int .i64 (p : Int) ∧ C + 1 ≤ p ∧ p ≤ LL + 1 ∧ Hid (BK wr w.heap.size 25 #[.int .i64 x.id, .int .i64 (N : Int), .int .i64 x.term, .int .i64 x.vote, .slice la LL lc, .int .i64 (Rf.sureN x (p - 1)), .int .i64 x.role, .int .i64 x.boss, .slice va VL vc, .slice na NL nc, .slice ma ML mc]) ∧ Hid (BK wr (w.heap.size + 1) 25 #[.int .i64 0, .int .i64 0, .int .i64 0, .int .i64 0, .slice none 0 0, .int .i64 0, .int .i64 0, .int .i64 0, .slice none 0 0, .slice none 0 0, .slice none 0 0]) ∧ Hid (Below w.heap.size w wr) ∧ w.heap.size + 2 ≤ wr.heap.size) (fun i _ => LL + 1 - (intOf i).toNat)
  case atStart => exact ⟨C + 1, by go_num, by omega, by omega, by rw [Nat.add_sub_cancel, Rf.sureN_low x C (by rw [unhide HC]; omega), unhide HC]; exact HX0, HR0, HB0, by omega⟩
  case round =>
    obtain ⟨p, rfl, p1, p2, HX, HR, HB, sz⟩ := hrel
    clear HX0 HB0 hS0 HR0
    obtain ⟨S, hSu⟩ : ∃ S, S = Rf.sureN x (p - 1) := ⟨_, rfl⟩
    rw [← hSu] at HX
    have HSu := hide hSu
    clear hSu
    obtain ⟨c0, c1, c2, c3, c4, c5, c6, c7, c8, c9, c10⟩ := (show NX wr w.heap.size _ _ _ _ _ _ _ _ _ _ _ from unhide HX).tell
    by_cases hlt : p ≤ LL
    · have hi1 : (p : Int) ≤ (LL : Int) := by omega
      have HMr := hide (IV.keep (keptN (unhide HP) (unhide HB)) (unhide H5))
      go_wp2_with fail
      go_loopw [4, 20] (fun h i wq => ∃ m c : Nat, i = .int .i64 (m : Int) ∧ h = .int .i64 (c : Int) ∧ m ≤ ML ∧ c ≤ m ∧ Hid ((x.mtch.take m).countP (fun v => decide ((p : Int) ≤ v)) = c) ∧ wq = wr) (fun _ i _ => ML - (intOf i).toNat)
      case atStart => exact ⟨0, 0, rfl, rfl, Nat.zero_le _, Nat.le_refl _, hide (by simp), rfl⟩
      case round =>
        obtain ⟨m, c, rfl, rfl, hm, hc, HCt, rfl⟩ := hrel
        by_cases hlm : m < ML
        · have hi2 : (m : Int) < (ML : Int) := by omega
          have hlm2 : m < x.mtch.length := by rw [← unhide hML]; exact hlm
          obtain ⟨y, hy⟩ : ∃ y, x.mtch[m]? = some y := ⟨_, List.getElem?_eq_getElem hlm2⟩
          obtain ⟨b, off, cap', e, _, _, _⟩ := (unhide HMr).ex (by intro e; rw [e] at hlm2; simp at hlm2)
          have ema : ma = some ⟨b, off, none⟩ := by cases e; rfl
          clear e
          subst ema
          have q0 := (unhide HMr).at hy
          have HCn := hide (Rf.countP_take (p := fun v => decide ((p : Int) ≤ v)) hy)
          clear hy hlm2
          by_cases g : (p : Int) ≤ y
          · go_wp2
            go_roundw
            case rel => exact ⟨m + 1, c + 1, by go_num, by go_num, by omega, by omega, hide (by rw [unhide HCn, unhide HCt]; simp [g]), trivial⟩
            case measure => simp [intOf]; omega
          · go_wp2
            go_roundw
            case rel => exact ⟨m + 1, c, by go_num, rfl, by omega, by omega, hide (by rw [unhide HCn, unhide HCt]; simp [g]), trivial⟩
            case measure => simp [intOf]; omega
        · have hm' : m = ML := by omega
          have HH : Hid (Rf.have9 x p = c) := hide (by
            have := unhide HCt
            rw [hm', unhide hML, List.take_length] at this
            exact this)
          have hi2 : ¬ (m : Int) < (ML : Int) := by omega
          have hc5 : c ≤ 5 := by have := unhide HML; omega
          clear HCt hm'
          have HSt : Hid (Rf.sureN x p = if x.commit < (p : Int) ∧ Rf.most x.n (Rf.have9 x p) ∧ Rf.atN x.log p = x.term then (p : Int) else Rf.sureN x (p - 1)) := hide (by
            have : p = p - 1 + 1 := by omega
            rw [this, Rf.sureN, ← this])
          obtain ⟨A, hA⟩ : ∃ A, A = Rf.atN x.log p := ⟨_, rfl⟩
          have HA := hide hA
          by_cases hmo : Rf.most (N : Int) c
          case neg =>
            have hd : decide (Rf.most (N : Int) c) = false := decide_eq_false hmo
            have CM2 := hide (fun wx hx => unhide CM S c hc5 wx hx)
            rw [hd] at CM2
            have HE : Hid (S = Rf.sureN x (p + 1 - 1)) := hide (by
              rw [Nat.add_sub_cancel, unhide HSt, if_neg (fun q => hmo (by have := q.2.1; rwa [unhide HN, unhide HH] at this))]
              exact unhide HSu)
            clear hmo hA
            go_wp2_with fail
            (first | go_region_with (first
                | (go_at_call 44; with_reducible refine (unhide CM2 _ (by repeat (first | with_reducible exact unhide HB | with_reducible apply Below.drew))).mono ?_; rintro e w2 ⟨rfl, hb1⟩; have hb2 : Below wr.heap.size wr w2 := below_via (Below.refl wr.heap.size wr).drew hb1; clear hb1)
                | (go_at_call 26; with_reducible refine (unhide CA p _ (by repeat (first | with_reducible exact below_via (unhide HB) hb2 | with_reducible apply Below.drew))).mono ?_; rintro e w3 ⟨rfl, m3, rfl⟩)) | fail)
            all_goals
              have HX2 := hide ((unhide HX).keep hb2)
              have HR2 := hide ((unhide HR).keep hb2)
              have HB2 := hide (below_via (unhide HB) hb2)
              have s2 : w.heap.size + 2 ≤ w2.heap.size := Nat.le_trans sz hb2.size
              clear hb2 HX HR HB c0 c1 c2 c3 c4 c5 c6 c7 c8 c9 c10
              go_wp2
              go_roundw
              case rel => exact ⟨p + 1, by go_num, by omega, by omega, by rw [← unhide HE]; exact HX2, HR2, HB2, s2⟩
              case measure => simp [intOf]; omega
          have hd : decide (Rf.most (N : Int) c) = true := decide_eq_true hmo
          have CM2 := hide (fun wx hx => unhide CM S c hc5 wx hx)
          rw [hd] at CM2
          clear CM
          have CA2 := hide (fun wx hx => unhide CA p wx hx)
          rw [← hA] at CA2
          clear hA CA
          by_cases hat : A = x.term
          · have HE : Hid ((p : Int) = Rf.sureN x (p + 1 - 1)) := hide (by
              rw [Nat.add_sub_cancel, unhide HSt, if_pos ⟨by rw [unhide HC]; omega, by rw [unhide HN, unhide HH]; exact hmo, by rw [← unhide HA]; exact hat⟩])
            subst hat
            clear hmo
            go_wp2_with fail
            go_region_held2 (fun w' => w'.cell? ⟨w.heap.size, 0, none⟩ = some (.int .i64 x.id) ∧ w'.cell? ⟨w.heap.size, 1, none⟩ = some (.int .i64 (N : Int)) ∧ w'.cell? ⟨w.heap.size, 2, none⟩ = some (.int .i64 x.term) ∧ w'.cell? ⟨w.heap.size, 3, none⟩ = some (.int .i64 x.vote) ∧ w'.cell? ⟨w.heap.size, 4, none⟩ = some (.slice la LL lc) ∧ w'.cell? ⟨w.heap.size, 5, none⟩ = some (.int .i64 S) ∧ w'.cell? ⟨w.heap.size, 6, none⟩ = some (.int .i64 x.role) ∧ w'.cell? ⟨w.heap.size, 7, none⟩ = some (.int .i64 x.boss) ∧ w'.cell? ⟨w.heap.size, 8, none⟩ = some (.slice va VL vc) ∧ w'.cell? ⟨w.heap.size, 9, none⟩ = some (.slice na NL nc) ∧ w'.cell? ⟨w.heap.size, 10, none⟩ = some (.slice ma ML mc)) (first | go_keep | exact (show NX _ w.heap.size _ _ _ _ _ _ _ _ _ _ _ from ((unhide HX).keep (by assumption))).tell)
              (first
                | (go_at_call 44; with_reducible refine (unhide CM2 _ (by repeat (first | with_reducible exact unhide HB | with_reducible apply Below.drew))).mono ?_; rintro e w2 ⟨rfl, hb1⟩; have hb2 : Below wr.heap.size wr w2 := below_via (Below.refl wr.heap.size wr).drew hb1; clear hb1)
                | (go_at_call 26; with_reducible refine (unhide CA2 _ (by repeat (first | with_reducible exact below_via (unhide HB) hb2 | with_reducible apply Below.drew))).mono ?_; rintro e w3 ⟨rfl, m3, rfl⟩))
            all_goals
              replace hb2 := below_drewN hb2 m3
              have HX2 := hide (((unhide HX).keep hb2).set 5 (.int .i64 (p : Int)))
              simp only [List.setIfInBounds_toArray, List.set_cons_zero, List.set_cons_succ] at HX2
              have c5n := ((unhide HX).keep hb2).at (j := 5) rfl
              have c5f := ((unhide HX).keep hb2).thaw 5
              have l2 := ((unhide HX).keep hb2).low
              have HR2 := hide (((unhide HR).keep hb2).other ⟨w.heap.size, 5, none⟩ (.int .i64 (p : Int)) (by show w.heap.size + 1 ≠ w.heap.size; omega))
              have HB2 := hide ((below_via (unhide HB) hb2).setCell (p := ⟨w.heap.size, 5, none⟩) (Nat.le_refl _) (.int .i64 (p : Int)))
              have s2 : w.heap.size + 2 ≤ ((w2.drewN m3).setCell ⟨w.heap.size, 5, none⟩ (.int .i64 (p : Int))).heap.size := by simp [World.setCell]; exact Nat.le_trans sz hb2.size
              clear hb2 HX HR HB c0 c1 c2 c3 c4 c5 c6 c7 c8 c9 c10
              go_wp2
              go_roundw
              case rel => exact ⟨p + 1, by go_num, by omega, by omega, by rw [← unhide HE]; exact HX2, HR2, HB2, s2⟩
              case measure => simp [intOf]; omega
          · have HE : Hid (S = Rf.sureN x (p + 1 - 1)) := hide (by
              rw [Nat.add_sub_cancel, unhide HSt, if_neg (fun q => hat (by rw [unhide HA]; exact q.2.2))]
              exact unhide HSu)
            clear hmo
            go_wp2_with fail
            go_region_held2 (fun w' => w'.cell? ⟨w.heap.size, 0, none⟩ = some (.int .i64 x.id) ∧ w'.cell? ⟨w.heap.size, 1, none⟩ = some (.int .i64 (N : Int)) ∧ w'.cell? ⟨w.heap.size, 2, none⟩ = some (.int .i64 x.term) ∧ w'.cell? ⟨w.heap.size, 3, none⟩ = some (.int .i64 x.vote) ∧ w'.cell? ⟨w.heap.size, 4, none⟩ = some (.slice la LL lc) ∧ w'.cell? ⟨w.heap.size, 5, none⟩ = some (.int .i64 S) ∧ w'.cell? ⟨w.heap.size, 6, none⟩ = some (.int .i64 x.role) ∧ w'.cell? ⟨w.heap.size, 7, none⟩ = some (.int .i64 x.boss) ∧ w'.cell? ⟨w.heap.size, 8, none⟩ = some (.slice va VL vc) ∧ w'.cell? ⟨w.heap.size, 9, none⟩ = some (.slice na NL nc) ∧ w'.cell? ⟨w.heap.size, 10, none⟩ = some (.slice ma ML mc)) (first | go_keep | exact (show NX _ w.heap.size _ _ _ _ _ _ _ _ _ _ _ from ((unhide HX).keep (by assumption))).tell)
              (first
                | (go_at_call 44; with_reducible refine (unhide CM2 _ (by repeat (first | with_reducible exact unhide HB | with_reducible apply Below.drew))).mono ?_; rintro e w2 ⟨rfl, hb1⟩; have hb2 : Below wr.heap.size wr w2 := below_via (Below.refl wr.heap.size wr).drew hb1; clear hb1)
                | (go_at_call 26; with_reducible refine (unhide CA2 _ (by repeat (first | with_reducible exact below_via (unhide HB) hb2 | with_reducible apply Below.drew))).mono ?_; rintro e w3 ⟨rfl, m3, rfl⟩))
            all_goals
              replace hb2 := below_drewN hb2 m3
              have HX2 := hide ((unhide HX).keep hb2)
              have HR2 := hide ((unhide HR).keep hb2)
              have HB2 := hide (below_via (unhide HB) hb2)
              have s2 : w.heap.size + 2 ≤ (w2.drewN m3).heap.size := Nat.le_trans sz hb2.size
              clear hb2 HX HR HB c0 c1 c2 c3 c4 c5 c6 c7 c8 c9 c10
              go_wp2
              go_roundw
              case rel => exact ⟨p + 1, by go_num, by omega, by omega, by rw [← unhide HE]; exact HX2, HR2, HB2, s2⟩
              case measure => simp [intOf]; omega
    · have hi1 : ¬ (p : Int) ≤ (LL : Int) := by omega
      have HE : Hid (S = Rf.sureN x x.log.length) := hide (by rw [← unhide hLL, unhide HSu]; congr 1; omega)
      obtain ⟨r0, r1, r2, r3, r4, r5, r6, r7, r8, r9, r10⟩ := (show NX wr (w.heap.size + 1) _ _ _ _ _ _ _ _ _ _ _ from unhide HR).tell
      obtain ⟨t0, t1, t2, t3, t4, t5, t6, t7, t8, t9, t10⟩ := (unhide HR).thaw11
      have FIN : Hid (PN P w (Rf.sure x) (.returned (.agg #[.int .i64 x.id, .int .i64 (N : Int), .int .i64 x.term, .int .i64 x.vote, .slice la LL lc, .int .i64 S, .int .i64 x.role, .int .i64 x.boss, .slice va VL vc, .slice na NL nc, .slice ma ML mc])) (put11 wr (w.heap.size + 1) (.int .i64 x.id) (.int .i64 (N : Int)) (.int .i64 x.term) (.int .i64 x.vote) (.slice la LL lc) (.int .i64 S) (.int .i64 x.role) (.int .i64 x.boss) (.slice va VL vc) (.slice na NL nc) (.slice ma ML mc))) := hide (by
        refine PN.of (below_put11 (unhide HB) (by omega)) fun hb => ⟨_, _, _, _, ?_, TV.keep (keptP (unhide HP) hb) (unhide H2), IV.keep (keptP (unhide HP) hb) (unhide H3), IV.keep (keptP (unhide HP) hb) (unhide H4), IV.keep (keptP (unhide HP) hb) (unhide H5)⟩
        show (_ : Array Value) = #[.int .i64 x.id, .int .i64 x.n, .int .i64 x.term, .int .i64 x.vote, _, .int .i64 (Rf.sureN x x.log.length), .int .i64 x.role, .int .i64 x.boss, _, _, _]
        rw [← unhide HE, unhide HN])
      clear HX HR HB
      go_wp2
      exact bodyPost_ret (v := .agg #[.int .i64 x.id, .int .i64 (N : Int), .int .i64 x.term, .int .i64 x.vote, .slice la LL lc, .int .i64 S, .int .i64 x.role, .int .i64 x.boss, .slice va VL vc, .slice na NL nc, .slice ma ML mc]) (by simp [results, Try.results49, go_sem, r0, r1, r2, r3, r4, r5, r6, r7, r8, r9, r10]) rfl (unhide FIN)

end Go.Proofs.Ytiplnegiphhdlaa.R15
