/- Walks: Put (the document's). -/
import Derived.Test.YtiplnegiphhdlaaOS
import Derived.Test.YtiplnegiphhdlaaOR
import Derived.Test.YtiplnegiphhdlaaMT
import Derived.Deep.Cut
import Derived.Deep.CutRange
namespace Go.Proofs.Ytiplnegiphhdlaa.R15
open Go.RowKit

set_option maxHeartbeats 16000000 in
set_option maxRecDepth 100000 in
theorem put_new (P : Nat → Prop) (x : Rf.Node) (cmd : Int) (v : Array Value) (w : World) (hv : NV P w v x) (hP : ∀ c, P c → c < w.heap.size) (hS : Rf.Leads x) : Calls Try.prog 34 #[.agg v, .int .i64 cmd] w (PNM P w (Rf.put x cmd)) := by
  have HS := hide hS
  have HP := hide hP
  have HV := hide hv
  obtain ⟨lv, vv, nv, mv, rfl, h2, h3, h4, h5⟩ := hv
  have H2 := hide h2
  obtain ⟨la, LL, lc, rfl, hLL, hlc, _⟩ := SC.shp h2
  obtain ⟨va, VL, vc, rfl, hVL, _, _⟩ := SC.shp h3
  obtain ⟨na, NL, nc, rfl, hNL, _, _⟩ := SC.shp h4
  obtain ⟨ma, ML, mc, rfl, hML, _, _⟩ := SC.shp h5
  have hLb : LL ≤ 60 := by rw [unhide hLL]; exact hS.log
  clear h2 h3 h4 h5 hS hP
  obtain ⟨W0, hW0⟩ : ∃ W0, W0 = (w.alloc (.cells #[.int .i64 x.id, .int .i64 x.n, .int .i64 x.term, .int .i64 x.vote, .slice la LL lc, .int .i64 x.commit, .int .i64 x.role, .int .i64 x.boss, .slice va VL vc, .slice na NL nc, .slice ma ML mc] 25)).alloc (.cells #[.int .i64 0, .int .i64 0, .int .i64 0, .int .i64 0, .slice none 0 0, .int .i64 0, .int .i64 0, .int .i64 0, .slice none 0 0, .slice none 0 0, .slice none 0 0] 25) := ⟨_, rfl⟩
  have HB0 : Hid (Below w.heap.size w W0) := hide (by rw [hW0]; exact (below_new _ _).alloc (by simp) _)
  have HX0 : Hid (BK W0 w.heap.size 25 #[.int .i64 x.id, .int .i64 x.n, .int .i64 x.term, .int .i64 x.vote, .slice la LL lc, .int .i64 x.commit, .int .i64 x.role, .int .i64 x.boss, .slice va VL vc, .slice na NL nc, .slice ma ML mc]) := hide (by rw [hW0]; exact (BK.new w _ _).keep (below_new _ _))
  have HR0 : Hid (BK W0 (w.heap.size + 1) 25 #[.int .i64 0, .int .i64 0, .int .i64 0, .int .i64 0, .slice none 0 0, .int .i64 0, .int .i64 0, .int .i64 0, .slice none 0 0, .slice none 0 0, .slice none 0 0]) := hide (by
    rw [hW0]
    exact BK.new' _ _ _ (by simp))
  have HS0 : Hid (W0.heap.size = w.heap.size + 2) := hide (by rw [hW0]; simp)
  obtain ⟨i0, I0, I1, I2, I3⟩ := info_parts info_T
  have I0' := hide I0
  have I1' := hide I1
  have I2' := hide I2
  have I3' := hide I3
  clear I0 I1 I2 I3
  obtain ⟨c0, c1, c2, c3, c4, c5, c6, c7, c8, c9, c10⟩ := (show NX W0 w.heap.size _ _ _ _ _ _ _ _ _ _ _ from unhide HX0).tell
  have f4 := (unhide HX0).thaw 4
  have l4 := (unhide HX0).low
  have HT : Hid (SC (· < W0.heap.size) W0 (.slice la LL lc) 2 LL (its x.log)) := hide (by
    have := SC.keep (keptN (unhide HP) (unhide HB0)) (unhide H2)
    rwa [← unhide hLL] at this)
  go_enter Try.func34, Try.ntmps34
  go_upto_region 1 with fail
  rw [← hW0]
  clear hW0
  go_upto_if 9 with fail
  go_cut [] from 6 (fun wc => Hid (NB P w.heap.size wc { x with log := Rf.grown x cmd }) ∧ Hid (BK wc (w.heap.size + 1) 25 #[.int .i64 0, .int .i64 0, .int .i64 0, .int .i64 0, .slice none 0 0, .int .i64 0, .int .i64 0, .int .i64 0, .slice none 0 0, .slice none 0 0, .slice none 0 0]) ∧ Hid (Below w.heap.size w wc))
  case first =>
    by_cases h60 : LL < 60
    · have g60 : (LL : Int) < 60 := by omega
      go_wp2_with fail
      have HC4 : ∀ w', Below W0.heap.size W0 w' → w'.cell? ⟨w.heap.size, 4, none⟩ = some (.slice la LL lc) := fun w' hb => ((unhide HX0).keep hb).at rfl
      have HC2 : ∀ w', Below W0.heap.size W0 w' → w'.cell? ⟨w.heap.size, 2, none⟩ = some (.int .i64 x.term) := fun w' hb => ((unhide HX0).keep hb).at rfl
      have HC4f : ∀ w', Below W0.heap.size W0 w' → w'.cell? ⟨w.heap.size, 4, none⟩ = some (.slice la LL lc) ∧ w'.frozen? ⟨w.heap.size, 4, none⟩ = false := fun w' hb => ⟨HC4 w' hb, ((unhide HX0).keep hb).thaw 4⟩
      have HF : ∀ u w', w'.ownsRow W0.heap.size 58 2 u (LL + 1) (its x.log ++ [.int .i64 x.term, .int .i64 cmd]) → Below W0.heap.size W0 w' → (fun wf => NB P w.heap.size wf { x with log := Rf.grown x cmd } ∧ BK wf (w.heap.size + 1) 25 #[.int .i64 0, .int .i64 0, .int .i64 0, .int .i64 0, .slice none 0 0, .int .i64 0, .int .i64 0, .int .i64 0, .slice none 0 0, .slice none 0 0, .slice none 0 0] ∧ Below w.heap.size w wf) (w'.setCell ⟨w.heap.size, 4, none⟩ u) := fun u w' ho hb => put_fin (unhide HP) (unhide HX0) (unhide HV) (unhide HB0) (unhide HR0) (unhide HS0) hb ho (unhide hLL) h60
      refine frame_nm fun f0 hf0 => ?_
      have q1 : G f0 1 = .int .i64 cmd := by rw [hf0]; rfl
      have q2 : G f0 2 = .pointer (some ⟨w.heap.size, 0, none⟩) := by rw [hf0]; rfl
      have hsz : f0.tmps.size = 47 := by rw [hf0]; rfl
      have hdf : f0.defers = [] := by rw [hf0]
      refine region_any (I := PI W0 w.heap.size LL la lc (its x.log) x.term cmd f0 (fun wf => NB P w.heap.size wf { x with log := Rf.grown x cmd } ∧ BK wf (w.heap.size + 1) 25 #[.int .i64 0, .int .i64 0, .int .i64 0, .int .i64 0, .slice none 0 0, .int .i64 0, .int .i64 0, .int .i64 0, .slice none 0 0, .slice none 0 0, .slice none 0 0] ∧ Below w.heap.size w wf)) rfl ?wait ?step ?done ?start
      case wait => exact ⟨by first | (simp; done) | (simp; rfl), by first | (simp; done) | (simp; rfl), by first | (simp; done) | (simp; rfl), by first | (simp; done) | (simp; rfl), by first | (simp; done) | (simp; rfl), by first | (simp; done) | (simp; rfl), by first | (simp; done) | (simp; rfl), by first | (simp; done) | (simp; rfl), by first | (simp; done) | (simp; rfl), by first | (simp; done) | (simp; rfl), by first | (simp; done) | (simp; rfl), by first | (simp; done) | (simp; rfl), trivial⟩
      case start => exact ⟨hsz, hdf, fun _ _ => rfl, fun _ => (Below.refl _ _).drew, fun q => (by cases q), fun q => (by cases q), fun q => (by cases q), fun q => (by cases q), fun q => (by cases q), fun q => (by cases q), fun q => (by cases q), fun q => (by cases q), fun q => (by cases q), fun q => (by cases q), fun q => (by cases q), fun q => (by cases q)⟩
      case step =>
        refine ⟨?_, ?_, ?_, ?_, ?_, ?_, ?_, ?_, ?_, ?_, ?_, ?_, trivial⟩
        · rintro L fa wx h hcl hL hw2
          exact pi0 h hL (by cases e : L 11 with | false => rfl | true => exact absurd (hcl 11 _ rfl e ⟨0, .phase⟩ (by simp) rfl) (by rw [hL]; decide)) rfl ⟨_, _, _, rfl⟩
        · rintro L fa wx h hcl hL hw2
          exact pi1 h hL q2 rfl ⟨_, _, _, rfl⟩
        · rintro L fa wx h hcl hL hw2
          exact pi2 h hL (by cases e : L 11 with | false => rfl | true => exact absurd (hcl 11 _ rfl e ⟨2, .phase⟩ (by simp) rfl) (by rw [hL]; decide)) (hw2 ⟨1, .data⟩ (by simp) rfl) HC4 rfl ⟨_, _, _, rfl⟩
        · rintro L fa wx h hcl hL hw2
          exact pi3 h hL (by cases e : L 11 with | false => rfl | true => exact absurd (hcl 11 _ rfl e ⟨3, .phase⟩ (by simp) rfl) (by rw [hL]; decide)) (by cases e : L 9 with | false => rfl | true => exact absurd (hcl 9 _ rfl e ⟨3, .data⟩ (by simp) rfl) (by rw [hL]; decide)) (hw2 ⟨0, .data⟩ (by simp) rfl) (hw2 ⟨2, .data⟩ (by simp) rfl) (unhide HT) (its_one _) hLb rfl ⟨_, _, _, rfl⟩
        · rintro L fa wx h hcl hL hw2
          exact pi4 h hL q2 rfl ⟨_, _, _, rfl⟩
        · rintro L fa wx h hcl hL hw2
          exact pi5 h hL (by cases e : L 11 with | false => rfl | true => exact absurd (hcl 11 _ rfl e ⟨5, .phase⟩ (by simp) rfl) (by rw [hL]; decide)) (hw2 ⟨4, .data⟩ (by simp) rfl) HC2 rfl ⟨_, _, _, rfl⟩
        · rintro L fa wx h hcl hL hw2
          exact pi6 h hL q1 rfl ⟨_, _, _, rfl⟩
        · rintro L fa wx h hcl hL hw2
          exact pi7 h hL (hw2 ⟨5, .data⟩ (by simp) rfl) (hw2 ⟨6, .data⟩ (by simp) rfl) rfl ⟨_, _, _, rfl⟩
        · rintro L fa wx h hcl hL hw2
          exact pi8 h hL (by cases e : L 11 with | false => rfl | true => exact absurd (hcl 11 _ rfl e ⟨8, .phase⟩ (by simp) rfl) (by rw [hL]; decide)) (hw2 ⟨7, .data⟩ (by simp) rfl) rfl ⟨_, _, _, rfl⟩
        · rintro L fa wx h hcl hL hw2
          exact pi9 h hL (by cases e : L 11 with | false => rfl | true => exact absurd (hcl 11 _ rfl e ⟨9, .phase⟩ (by simp) rfl) (by rw [hL]; decide)) (hw2 ⟨3, .data⟩ (by simp) rfl) (hw2 ⟨8, .data⟩ (by simp) rfl) hLb rfl ⟨_, _, _, rfl⟩
        · rintro L fa wx h hcl hL hw2
          exact pi10 h hL q2 rfl ⟨_, _, _, rfl⟩
        · rintro L fa wx h hcl hL hw2
          exact pi11 h hL (hw2 ⟨3, .phase⟩ (by simp) rfl) (hw2 ⟨9, .data⟩ (by simp) rfl) (hw2 ⟨10, .data⟩ (by simp) rfl) HF HC4f rfl ⟨_, _, _, rfl⟩
      case done =>
        rintro L f1 wd h hall
        have hF := h.fin (hall 11 (by simp))
        have HFd := hide hF
        have e := frame_is h.size h.defs
        rw [show List.range 47 = [0, 1, 2, 3, 4, 5, 6, 7, 8, 9, 10, 11, 12, 13, 14, 15, 16, 17, 18, 19, 20, 21, 22, 23, 24, 25, 26, 27, 28, 29, 30, 31, 32, 33, 34, 35, 36, 37, 38, 39, 40, 41, 42, 43, 44, 45, 46] from rfl] at e
        simp only [List.map_cons, List.map_nil] at e
        rw [h.rest 0 (by decide), h.rest 1 (by decide), h.rest 2 (by decide), h.rest 3 (by decide), h.rest 4 (by decide), h.rest 5 (by decide), h.rest 6 (by decide), h.rest 7 (by decide), h.rest 8 (by decide), h.rest 9 (by decide), h.rest 21 (by decide), h.rest 22 (by decide), h.rest 23 (by decide), h.rest 24 (by decide), h.rest 25 (by decide), h.rest 26 (by decide), h.rest 27 (by decide), h.rest 28 (by decide), h.rest 29 (by decide), h.rest 30 (by decide), h.rest 31 (by decide), h.rest 32 (by decide), h.rest 33 (by decide), h.rest 34 (by decide), h.rest 35 (by decide), h.rest 36 (by decide), h.rest 37 (by decide), h.rest 38 (by decide), h.rest 39 (by decide), h.rest 40 (by decide), h.rest 41 (by decide), h.rest 42 (by decide), h.rest 43 (by decide), h.rest 44 (by decide), h.rest 45 (by decide), h.rest 46 (by decide)] at e
        generalize G f1 10 = y10 at e
        generalize G f1 11 = y11 at e
        generalize G f1 12 = y12 at e
        generalize G f1 13 = y13 at e
        generalize G f1 14 = y14 at e
        generalize G f1 15 = y15 at e
        generalize G f1 16 = y16 at e
        generalize G f1 17 = y17 at e
        generalize G f1 18 = y18 at e
        generalize G f1 19 = y19 at e
        generalize G f1 20 = y20 at e
        subst e
        subst hf0
        clear h hall hF hsz hdf q1 q2
        go_wp2_with fail
        go_meet
        case rel => exact ⟨hide (unhide HFd).1, hide (unhide HFd).2.1, hide (unhide HFd).2.2⟩
    · have g60 : ¬ (LL : Int) < 60 := by omega
      go_wp2_with fail
      go_meet
      case rel => exact ⟨hide (by rw [Rf.grown, if_neg (by have := unhide hLL; omega)]; exact NB.new (unhide HP) (unhide HV) (unhide HX0) (unhide HB0)), HR0, HB0⟩
  case rest =>
    obtain ⟨HN, HR, HB⟩ := hcut
    clear HX0 HR0 HB0 HS0 c0 c1 c2 c3 c4 c5 c6 c7 c8 c9 c10 f4 l4 HT HV H2 hLL hVL hNL hML hlc I0' I1' I2' I3'
    obtain ⟨i, hi⟩ : ∃ i : Nat, x.id = (i : Int) + 1 := ⟨(x.id - 1).toNat, by have := (unhide HS).id.1; omega⟩
    have Hi := hide hi
    have hi5 : i < 5 := by have := (unhide HS).id.2; have := (unhide HS).n.2; omega
    have ei : IntKind.i64.wrap ((i : Int) + 1 - 1) = (i : Int) := by rw [wrap_i64 (by omega) (by omega)]; omega
    have ei2 : IntKind.i64.wrap (i : Int) = (i : Int) := wrap_i64 (by omega) (by omega)
    have HG := hide (Rf.put_leads (unhide HS) cmd)
    obtain ⟨la1, L1, lc1, va1, V1, vc1, na1, N1, nc1, ma1, M1, mc1, A, V, HLn⟩ := (unhide HN).cells
    simp only at A V HLn
    have hL60 : L1 ≤ 60 := by have := (unhide HLn).1; have := (unhide HG).2.1; omega
    have hMl : i < x.mtch.length := by have := (unhide HS).mlen; have := (unhide HS).id.2; omega
    have hMk : x.mtch.length ≤ 1000 := by have := (unhide HS).mlen; have := (unhide HS).n.2; omega
    have CW := hide (with_new x.mtch (.slice ma1 M1 mc1) i (L1 : Int) wc ((NV.votes V).2.2.keep fun c hc => ⟨(Aw.lt (unhide HP) A.low hc).1, rfl⟩) hMl hMk)
    have c0 : wc.cell? ⟨w.heap.size, 0, none⟩ = some (.int .i64 ((i : Int) + 1)) := by rw [← hi]; exact A.at rfl
    have c4 := A.at (j := 4) rfl
    have c10 := A.at (j := 10) rfl
    have HA := hide A
    have HVc := hide V
    clear hi A V hMl hMk
    go_wp2_with fail
    refine (unhide CW).mono ?_
    rintro e w2 ⟨mv2, rfl, hm2, b2⟩
    obtain ⟨ma2, M2, mc2, rfl, _, _, _⟩ := SC.shp hm2
    have A2 := (unhide HA).keep b2
    have z10 := A2.at (j := 10) rfl
    have z10f := A2.thaw 10
    have z10l := A2.low
    have kA : ∀ c, Aw P w.heap.size wc c → Aw P w.heap.size w2 c ∧ w2.heap[c]? = wc.heap[c]? := fun c hc => ⟨hc.mono b2.size, b2.block c (Aw.lt (unhide HP) (unhide HA).low hc).1⟩
    have lowR := (unhide HR).low
    have N2 : Hid (NB P w.heap.size (w2.setCell ⟨w.heap.size, 10, none⟩ (.slice ma2 M2 mc2)) { x with log := Rf.grown x cmd, mtch := x.mtch.set i (L1 : Int) }) := hide (by
      refine NB.set (unhide HP) A2 10 _ ?_
      obtain ⟨q1, q2, q3, _⟩ := And.intro (NV.log (unhide HVc)) (NV.votes (unhide HVc))
      exact ⟨_, _, _, _, rfl, q1.keep kA, q2.keep kA, q3.keep kA, hm2.keep fun c hc => ⟨.inr ⟨by have := hc.1; omega, hc.2⟩, rfl⟩⟩)
    have R2 := hide (((unhide HR).keep b2).other ⟨w.heap.size, 10, none⟩ (.slice ma2 M2 mc2) (by show w.heap.size + 1 ≠ w.heap.size; omega))
    have B2 := hide ((below_via (unhide HB) b2).setCell (p := ⟨w.heap.size, 10, none⟩) (Nat.le_refl _) (.slice ma2 M2 mc2))
    clear HN HR HB HA HVc CW b2 A2 hm2 kA c0 c4 c10 lowR
    go_upto_region 4 with fail
    clear z10 z10f z10l
    generalize w2.setCell ⟨w.heap.size, 10, none⟩ (.slice ma2 M2 mc2) = w3 at N2 R2 B2 ⊢
    obtain ⟨la3, L3, lc3, va3, V3, vc3, na3, N3, nc3, ma3, M3, mc3, A3, V3', HLn3⟩ := (unhide N2).cells
    simp only at A3 V3' HLn3
    have hL3 : L3 ≤ 60 := by have := (unhide HLn3).1; have := (unhide HG).2.1; omega
    have eL : IntKind.i64.wrap ((L3 : Int) + 1) = (L3 : Int) + 1 := wrap_i64 (by omega) (by omega)
    have CW := hide (with_new x.next (.slice na3 N3 nc3) i ((L3 : Int) + 1) w3 ((NV.votes V3').2.1.keep fun c hc => ⟨(Aw.lt (unhide HP) A3.low hc).1, rfl⟩) (by have := (unhide HS).len; have := (unhide HS).id.2; have := unhide Hi; omega) (by have := (unhide HS).len; have := (unhide HS).n.2; omega))
    have c0 : w3.cell? ⟨w.heap.size, 0, none⟩ = some (.int .i64 ((i : Int) + 1)) := by rw [← unhide Hi]; exact A3.at rfl
    have c4 := A3.at (j := 4) rfl
    have c9 := A3.at (j := 9) rfl
    have HA := hide A3
    have HVc := hide V3'
    clear A3 V3' N2
    go_wp2_with fail
    refine (unhide CW).mono ?_
    rintro e w4 ⟨nv4, rfl, hn4, b4⟩
    obtain ⟨na4, N4, nc4, rfl, _, _, _⟩ := SC.shp hn4
    have A4 := (unhide HA).keep b4
    have z9 := A4.at (j := 9) rfl
    have z9f := A4.thaw 9
    have z9l := A4.low
    have kA : ∀ c, Aw P w.heap.size w3 c → Aw P w.heap.size w4 c ∧ w4.heap[c]? = w3.heap[c]? := fun c hc => ⟨hc.mono b4.size, b4.block c (Aw.lt (unhide HP) (unhide HA).low hc).1⟩
    have lowR := (unhide R2).low
    have EX : Rf.putOne x cmd = { x with log := Rf.grown x cmd, mtch := x.mtch.set i (L1 : Int), next := x.next.set i ((L3 : Int) + 1) } := by
      rw [Rf.putOne, show (x.id - 1).toNat = i by have := unhide Hi; omega, ← (unhide HLn).1, (unhide HLn3).1, (unhide HLn).1]
    have N4' : Hid (NB P w.heap.size (w4.setCell ⟨w.heap.size, 9, none⟩ (.slice na4 N4 nc4)) (Rf.putOne x cmd)) := hide (by
      rw [EX]
      refine NB.set (unhide HP) A4 9 _ ?_
      obtain ⟨q1, q2, _, q4⟩ := And.intro (NV.log (unhide HVc)) (NV.votes (unhide HVc))
      exact ⟨_, _, _, _, rfl, q1.keep kA, q2.keep kA, hn4.keep fun c hc => ⟨.inr ⟨by have := hc.1; omega, hc.2⟩, rfl⟩, q4.keep kA⟩)
    have R4 := hide (((unhide R2).keep b4).other ⟨w.heap.size, 9, none⟩ (.slice na4 N4 nc4) (by show w.heap.size + 1 ≠ w.heap.size; omega))
    have B4 := hide ((below_via (unhide B2) b4).setCell (p := ⟨w.heap.size, 9, none⟩) (Nat.le_refl _) (.slice na4 N4 nc4))
    clear R2 B2 HA HVc CW b4 A4 hn4 kA c0 c4 c9 lowR EX HLn HLn3
    go_upto_region 5 with fail
    clear z9 z9f z9l eL ei ei2
    generalize w4.setCell ⟨w.heap.size, 9, none⟩ (.slice na4 N4 nc4) = w5 at N4' R4 B4 ⊢
    have HL5 := hide (unhide HG).1
    obtain ⟨y, hy⟩ : ∃ y, y = Rf.putOne x cmd := ⟨_, rfl⟩
    rw [← hy] at N4' HL5
    have Hy := hide hy
    clear hy
    obtain ⟨la5, L5, lc5, va5, V5, vc5, na5, N5, nc5, ma5, M5, mc5, A5, V5', -⟩ := (unhide N4').cells
    have CS := hide (sure_new (Aw P w.heap.size w5) y _ w5 V5' (fun c hc => (Aw.lt (unhide HP) A5.low hc).1) (unhide HL5))
    obtain ⟨c0, c1, c2, c3, c4, c5, c6, c7, c8, c9, c10⟩ := (show NX w5 w.heap.size _ _ _ _ _ _ _ _ _ _ _ from A5).tell
    have HA := hide A5
    clear A5 V5' N4'
    go_wp2_with fail
    refine (unhide CS).mono ?_
    rintro e w6 ⟨v6, rfl, hv6, b6⟩
    have HSe := hide (Rf.sure_sends (unhide HL5))
    obtain ⟨z, hz⟩ : ∃ z, z = Rf.sure y := ⟨_, rfl⟩
    rw [← hz] at hv6 HSe
    have HZ : Hid ((z, Rf.batches z) = Rf.put x cmd) := hide (by rw [Rf.put, ← unhide Hy, ← hz])
    clear hz Hy
    obtain ⟨lv6, vv6, nv6, mv6, rfl, p1, p2, p3, p4⟩ := id hv6
    obtain ⟨la6, L6, lc6, rfl, _, _, _⟩ := SC.shp p1
    obtain ⟨va6, V6, vc6, rfl, _, _, _⟩ := SC.shp p2
    obtain ⟨na6, N6, nc6, rfl, _, _, _⟩ := SC.shp p3
    obtain ⟨ma6, M6, mc6, rfl, _, _, _⟩ := SC.shp p4
    clear p1 p2 p3 p4
    have A6 := (unhide HA).keep b6
    obtain ⟨t0, t1, t2, t3, t4, t5, t6, t7, t8, t9, t10⟩ := A6.thaw11
    obtain ⟨d0, d1, d2, d3, d4, d5, d6, d7, d8, d9, d10⟩ := (show NX w6 w.heap.size _ _ _ _ _ _ _ _ _ _ _ from A6).tell
    have d6l := A6.low
    have lowR := (unhide R4).low
    have HN6 : Hid (NB P w.heap.size (put11 w6 w.heap.size (.int .i64 z.id) (.int .i64 z.n) (.int .i64 z.term) (.int .i64 z.vote) (.slice la6 L6 lc6) (.int .i64 z.commit) (.int .i64 z.role) (.int .i64 z.boss) (.slice va6 V6 vc6) (.slice na6 N6 nc6) (.slice ma6 M6 mc6)) z) := hide (NB.put (unhide HP) A6 (hv6.keep (Q := Aw P w.heap.size w6) fun c hc => ⟨hc.elim (fun q => q.mono b6.size) (fun q => .inr ⟨by have := q.1; omega, q.2⟩), rfl⟩))
    have R6 : Hid (BK (put11 w6 w.heap.size (.int .i64 z.id) (.int .i64 z.n) (.int .i64 z.term) (.int .i64 z.vote) (.slice la6 L6 lc6) (.int .i64 z.commit) (.int .i64 z.role) (.int .i64 z.boss) (.slice va6 V6 vc6) (.slice na6 N6 nc6) (.slice ma6 M6 mc6)) (w.heap.size + 1) 25 #[.int .i64 0, .int .i64 0, .int .i64 0, .int .i64 0, .slice none 0 0, .int .i64 0, .int .i64 0, .int .i64 0, .slice none 0 0, .slice none 0 0, .slice none 0 0]) := hide (bk_out11 ((unhide R4).keep b6) (show w.heap.size + 1 ≠ w.heap.size by omega))
    have B6 : Hid (Below w.heap.size w (put11 w6 w.heap.size (.int .i64 z.id) (.int .i64 z.n) (.int .i64 z.term) (.int .i64 z.vote) (.slice la6 L6 lc6) (.int .i64 z.commit) (.int .i64 z.role) (.int .i64 z.boss) (.slice va6 V6 vc6) (.slice na6 N6 nc6) (.slice ma6 M6 mc6))) := hide (below_put11 (below_via (unhide B4) b6) (Nat.le_refl w.heap.size))
    unfold put11 at HN6 R6 B6
    clear R4 B4 HA CS b6 A6 hv6 c0 c1 c2 c3 c4 c5 c6 c7 c8 c9 c10 lowR HL5
    go_upto_region 6 with fail
    clear t0 t1 t2 t3 t4 t5 t6 t7 t8 t9 t10 d0 d1 d2 d3 d4 d5 d6 d7 d8 d9 d10 d6l
    generalize ((((((((((w6.setCell ⟨w.heap.size, 0, none⟩ (.int .i64 z.id)).setCell ⟨w.heap.size, 1, none⟩ (.int .i64 z.n)).setCell ⟨w.heap.size, 2, none⟩ (.int .i64 z.term)).setCell ⟨w.heap.size, 3, none⟩ (.int .i64 z.vote)).setCell ⟨w.heap.size, 4, none⟩ (.slice la6 L6 lc6)).setCell ⟨w.heap.size, 5, none⟩ (.int .i64 z.commit)).setCell ⟨w.heap.size, 6, none⟩ (.int .i64 z.role)).setCell ⟨w.heap.size, 7, none⟩ (.int .i64 z.boss)).setCell ⟨w.heap.size, 8, none⟩ (.slice va6 V6 vc6)).setCell ⟨w.heap.size, 9, none⟩ (.slice na6 N6 nc6)).setCell ⟨w.heap.size, 10, none⟩ (.slice ma6 M6 mc6) = w7 at HN6 R6 B6 ⊢
    obtain ⟨la7, L7, lc7, va7, V7, vc7, na7, N7, nc7, ma7, M7, mc7, A7, V7', -⟩ := (unhide HN6).cells
    have CB : Hid (∀ wx, Below w7.heap.size w7 wx → Calls Try.prog 32 #[.agg #[.int .i64 z.id, .int .i64 z.n, .int .i64 z.term, .int .i64 z.vote, .slice la7 L7 lc7, .int .i64 z.commit, .int .i64 z.role, .int .i64 z.boss, .slice va7 V7 vc7, .slice na7 N7 nc7, .slice ma7 M7 mc7]] wx (fun e w' => ∃ v, e = .returned v ∧ MV (Fresh wx w') w' v (Rf.batches z) ∧ Below wx.heap.size wx w')) := hide (fun wx hx => batches_any z #[.int .i64 z.id, .int .i64 z.n, .int .i64 z.term, .int .i64 z.vote, .slice la7 L7 lc7, .int .i64 z.commit, .int .i64 z.role, .int .i64 z.boss, .slice va7 V7 vc7, .slice na7 N7 nc7, .slice ma7 M7 mc7] wx ((NV.awNv (unhide HP) A7.low V7').keep (kept hx)) (unhide HSe))
    obtain ⟨c0, c1, c2, c3, c4, c5, c6, c7, c8, c9, c10⟩ := (show NX w7 w.heap.size _ _ _ _ _ _ _ _ _ _ _ from A7).tell
    have HA := hide A7
    have HV7 := hide V7'
    have HS7 : Hid (w.heap.size + 1 < w7.heap.size) := hide (unhide R6).low
    clear A7 V7' HN6
    go_region_held2 (fun w' => w'.cell? ⟨w.heap.size, 0, none⟩ = some (.int .i64 z.id) ∧ w'.cell? ⟨w.heap.size, 1, none⟩ = some (.int .i64 z.n) ∧ w'.cell? ⟨w.heap.size, 2, none⟩ = some (.int .i64 z.term) ∧ w'.cell? ⟨w.heap.size, 3, none⟩ = some (.int .i64 z.vote) ∧ w'.cell? ⟨w.heap.size, 4, none⟩ = some (.slice la7 L7 lc7) ∧ w'.cell? ⟨w.heap.size, 5, none⟩ = some (.int .i64 z.commit) ∧ w'.cell? ⟨w.heap.size, 6, none⟩ = some (.int .i64 z.role) ∧ w'.cell? ⟨w.heap.size, 7, none⟩ = some (.int .i64 z.boss) ∧ w'.cell? ⟨w.heap.size, 8, none⟩ = some (.slice va7 V7 vc7) ∧ w'.cell? ⟨w.heap.size, 9, none⟩ = some (.slice na7 N7 nc7) ∧ w'.cell? ⟨w.heap.size, 10, none⟩ = some (.slice ma7 M7 mc7)) (first | go_keep | exact (show NX _ w.heap.size _ _ _ _ _ _ _ _ _ _ _ from ((unhide HA).keep (by assumption))).tell)
      ((go_at_call 32; with_reducible refine (unhide CB _ (by repeat (first | with_reducible exact Below.refl _ _ | with_reducible apply Below.drew))).mono ?_; rintro e w8 ⟨mv8, rfl, hm8, hb0⟩; have hb8 : Below w7.heap.size w7 w8 := below_via (Below.refl w7.heap.size w7).drew hb0; have R8 := (unhide R6).keep hb8; obtain ⟨r0, r1, r2, r3, r4, r5, r6, r7, r8, r9, r10⟩ := (show NX w8 (w.heap.size + 1) _ _ _ _ _ _ _ _ _ _ _ from R8).tell; obtain ⟨t0, t1, t2, t3, t4, t5, t6, t7, t8, t9, t10⟩ := R8.thaw11; have r8l := R8.low; obtain ⟨ms8, ML8, mk8, emv⟩ := mv_slice hm8; subst emv; have HM8 := hide hm8; have HB8 := hide hb8; clear hb0 R8 hm8))
    have FIN : Hid (PNM P w (Rf.put x cmd) (.returned (.tuple #[.agg #[.int .i64 z.id, .int .i64 z.n, .int .i64 z.term, .int .i64 z.vote, .slice la7 L7 lc7, .int .i64 z.commit, .int .i64 z.role, .int .i64 z.boss, .slice va7 V7 vc7, .slice na7 N7 nc7, .slice ma7 M7 mc7], .slice ms8 ML8 mk8])) (put11 w8 (w.heap.size + 1) (.int .i64 z.id) (.int .i64 z.n) (.int .i64 z.term) (.int .i64 z.vote) (.slice la7 L7 lc7) (.int .i64 z.commit) (.int .i64 z.role) (.int .i64 z.boss) (.slice va7 V7 vc7) (.slice na7 N7 nc7) (.slice ma7 M7 mc7))) := hide (by
      rw [← unhide HZ]
      exact pnm_ret (unhide HP) (unhide HS7) (unhide HV7) (unhide B6) (unhide HB8) (unhide HM8))
    clear HV7 HM8 HB8 hb8 HA R6 B6 HZ HSe CB HS7
    go_wp2
    exact bodyPost_ret (v := .tuple #[.agg #[.int .i64 z.id, .int .i64 z.n, .int .i64 z.term, .int .i64 z.vote, .slice la7 L7 lc7, .int .i64 z.commit, .int .i64 z.role, .int .i64 z.boss, .slice va7 V7 vc7, .slice na7 N7 nc7, .slice ma7 M7 mc7], .slice ms8 ML8 mk8]) (by simp [results, Try.results34, go_sem, r0, r1, r2, r3, r4, r5, r6, r7, r8, r9, r10]) rfl (unhide FIN)

end Go.Proofs.Ytiplnegiphhdlaa.R15
