/- Walks: what the document says a right test says of a right value: one of some. (Written by gen_s11.py.) -/
import Derived.Test.YtbdgngfpofohpaaDoorG34
namespace Go.Proofs.YtbdgngfpofohpaaDoor
open Go.RowKit

set_option maxRecDepth 100000 in
set_option maxHeartbeats 16000000 in
theorem rdoes_k8 (k : Int) (hk0 : k = 8) (a b : Tree) (oa ob : Bool) (ks : List TS) (IH : ∀ u ∈ ks, RDoesC u) : RDoesC (.mk k a b oa ob ks) := by
  have HK0 := hide hk0
  clear hk0
  intro v w q u d hM Mv hw hv
  rw [MemS] at hM
  obtain ⟨hkl, a0, a1, a2, a3, a4, a5, b0, b1, b2, b3, b4, b5, ad, cap, ha, hb, rfl, hks⟩ := hM
  have h4 : ¬ 4 < d := by
    intro h
    rw [ws_much h] at hw
    cases hw
  have hk : ¬ (k < 1 ∨ 9 < k) := by
    intro h
    rw [ws_kind h4 h] at hw
    cases hw
  have QA : Hid (k = 3 ∨ k = 4 ∨ k = 5 ∨ k = 6 ∨ k = 7 → (wrongF a 0 1).1 = 0) := hide (by
    intro h
    by_cases k7 : k = 7
    · subst k7
      rw [ws_in h4] at hw
      exact valW0 (twoW0 hw).1
    · rw [ws_one h4 (by omega)] at hw
      exact valW0 (oneW0 hw))
  have QB : Hid (k = 7 → (wrongF b 0 1).1 = 0) := hide (by
    rintro rfl
    rw [ws_in h4] at hw
    exact valW0 (twoW0 hw).2)
  have QK : Hid (k = 8 ∨ k = 9 → ks.length ≤ 20 ∧ ks ≠ [] ∧ ∀ u ∈ ks, wrongS u (d + 1) = 0) := hide (by
    intro h
    rw [ws_kids h4 h] at hw
    by_cases hn : ks.length < 1 ∨ 20 < ks.length
    · rw [if_pos hn] at hw; cases hw
    · rw [if_neg hn] at hw
      exact ⟨by omega, by intro e; rw [e] at hn; simp at hn, wrongSL0 hw⟩)
  obtain ⟨y1, c1, x1, t1, l1, n1, p1, rfl, rfl, rfl, rfl, rfl, rfl⟩ := ha.six
  obtain ⟨y2, c2, x2, t2, l2, n2, p2, rfl, rfl, rfl, rfl, rfl, rfl⟩ := hb.six
  have K1 := hide (fun wx (hx : Below w.heap.size w wx) => yr (dless_tot v a u _ _ _ wx (Mem.below hx Mv) (Mem.below hx ha)))
  have K2 := hide (fun wx (hx : Below w.heap.size w wx) => yr (dless_tot a v _ u _ _ wx (Mem.below hx ha) (Mem.below hx Mv)))
  have K3 := hide (fun wx (hx : Below w.heap.size w wx) => dless_tot v b u _ _ _ wx (Mem.below hx Mv) (Mem.below hx hb))
  have K4 := hide (fun wx (hx : Below w.heap.size w wx) => dless_tot b v _ u _ _ wx (Mem.below hx hb) (Mem.below hx Mv))
  have KE := hide (fun wx (hx : Below w.heap.size w wx) => dequal_all v a wx u _ (Mem.mono hx.size (Mem.below hx Mv)) (Mem.mono hx.size (Mem.below hx ha)))
  have KD : Hid (∀ T ∈ ks, (k = 8 ∨ k = 9) → ∀ q wx, Below w.heap.size w wx → MemS wx.heap.size wx T q → Calls Tryd.prog 10 #[.agg q, .agg u] wx fun e w' => e = .returned (.int .i64 ((doesS T v : Nat) : Int)) ∧ Below wx.heap.size wx w') :=
    hide fun T hT h q wx hx hq => IH T hT v wx q u (d + 1) hq (Mem.mono hx.size (Mem.below hx Mv)) ((unhide QK h).2.2 T hT) hv
  have lm1 := lessD_le v a
  have lm2 := lessD_le a v
  have lm3 := lessD_le v b
  have lm4 := lessD_le b v
  have HD := hide (show doesS (.mk k a b oa ob ks) v = _ from by rw [doesS])
  have R1 : Hid ((wrongF a 0 1).1 = 0 → lessH v a = lessD v a ∧ lessH a v = lessD a v) := hide fun h => ⟨(lessD_is hv h).symm, (lessD_is h hv).symm⟩
  have R2 : Hid ((wrongF b 0 1).1 = 0 → lessH v b = lessD v b ∧ lessH b v = lessD b v) := hide fun h => ⟨(lessD_is hv h).symm, (lessD_is h hv).symm⟩
  have HK := hide hks
  generalize doesS (.mk k a b oa ob ks) v = D0 at *
  generalize lessD v a = m1 at *
  generalize lessD a v = m2 at *
  generalize lessD v b = m3 at *
  generalize lessD b v = m4 at *
  obtain ⟨u0, u1, u2, u3, u4, u5, rfl⟩ := Mv.arr
  clear ha hb Mv hw hv hks IH
  obtain ⟨wB, hwB⟩ : ∃ wB, wB = (w.alloc (.cells #[.int .i64 k, .int .i64 a.kd, .bool y1, .int .i64 c1, .int .i64 x1, .string t1, .slice l1 n1 p1, .int .i64 b.kd, .bool y2, .int .i64 c2, .int .i64 x2, .string t2, .slice l2 n2 p2, .bool oa, .bool ob, .slice ad ks.length cap] 29)).alloc (.cells #[u0, u1, u2, u3, u4, u5] 26) := ⟨_, rfl⟩
  have NB : Hid (Below w.heap.size w wB) := hide (by rw [hwB]; exact bv (vbelow_new _ _) (vbelow_new _ _))
  have XT : Hid (B16 wB w.heap.size #[.int .i64 k, .int .i64 a.kd, .bool y1, .int .i64 c1, .int .i64 x1, .string t1, .slice l1 n1 p1, .int .i64 b.kd, .bool y2, .int .i64 c2, .int .i64 x2, .string t2, .slice l2 n2 p2, .bool oa, .bool ob, .slice ad ks.length cap]) := hide (by rw [hwB]; exact B16.new.over)
  have XV : Hid (Box wB (w.heap.size + 1) #[u0, u1, u2, u3, u4, u5]) := hide (by
    rw [hwB]
    have := Box.new (w := w.alloc (.cells #[.int .i64 k, .int .i64 a.kd, .bool y1, .int .i64 c1, .int .i64 x1, .string t1, .slice l1 n1 p1, .int .i64 b.kd, .bool y2, .int .i64 c2, .int .i64 x2, .string t2, .slice l2 n2 p2, .bool oa, .bool ob, .slice ad ks.length cap] 29)) (t := 26) (a0 := u0) (a1 := u1) (a2 := u2) (a3 := u3) (a4 := u4) (a5 := u5)
    simpa using this)
  go_enter Tryd.func10, Tryd.ntmps10
  go_upto_region 1 with fail
  rw [← hwB]
  clear hwB
  refine frame_name ?_
  intro f0 hf0
  have s2 : G f0 2 = .pointer (some ⟨w.heap.size, 0, none⟩) := by rw [hf0]; rfl
  have s3 : G f0 3 = .pointer (some ⟨w.heap.size + 1, 0, none⟩) := by rw [hf0]; rfl
  have hsz : f0.tmps.size = 88 := by rw [hf0]; rfl
  have hdf : f0.defers = [] := by rw [hf0]
  refine region_any (I := RL wB f0 88 [13, 14, 15, 16, 17, 18, 19, 20, 5, 6] [.lit (.agg #[u0, u1, u2, u3, u4, u5]), .lit (.pointer (some ⟨w.heap.size, 1, none⟩)), .lit (.agg #[.int .i64 a.kd, .bool y1, .int .i64 c1, .int .i64 x1, .string t1, .slice l1 n1 p1]), .lit (.int .i64 ((m1 : Nat) : Int)), .lit (.pointer (some ⟨w.heap.size, 1, none⟩)), .lit (.agg #[.int .i64 a.kd, .bool y1, .int .i64 c1, .int .i64 x1, .string t1, .slice l1 n1 p1]), .lit (.agg #[u0, u1, u2, u3, u4, u5]), .lit (.int .i64 ((m2 : Nat) : Int)), .lit (.int .i64 ((m1 : Nat) : Int)), .lit (.int .i64 ((m2 : Nat) : Int))]) (by kernel_rfl) ?wait ?step ?done ?start
  case wait => exact ⟨by simp, by simp, by simp, by simp, by simp, by simp, by simp, by simp, by simp, by simp, trivial⟩
  case start => exact RI.start hsz hdf ((Below.refl _ _).drew)
  case step =>
    refine ⟨?_, ?_, ?_, ?_, ?_, ?_, ?_, ?_, ?_, ?_, trivial⟩
    · rintro L fa wx h hcl hL hw2
      exact rl_val h (by decide) rfl rfl rfl (by decide) rfl (run_ldX (eval_G ((h.keep (s := 3) (by decide)).trans s3)) ((unhide XV).keep h.old (unhide XV).low)) rfl
    · rintro L fa wx h hcl hL hw2
      exact rl_val h (by decide) rfl rfl rfl (by decide) rfl (run_fldTA (eval_G ((h.keep (s := 2) (by decide)).trans s2))) rfl
    · rintro L fa wx h hcl hL hw2
      exact rl_val h (by decide) rfl rfl rfl (by decide) rfl (run_ldTA (eval_G (show G fa 14 = .pointer (some ⟨w.heap.size, 1, none⟩) from (h.got 1 14 (hw2 ⟨1, .data⟩ (by simp) rfl) rfl))) ((unhide XT).keep h.old (unhide XT).low)) rfl
    · rintro L fa wx h hcl hL hw2
      exact rl_call (R := fun v _ => v = .int .i64 ((m1 : Nat) : Int)) h (by decide) rfl rfl rfl (by decide) rfl (run_call2 (eval_G (show G fa 13 = .agg #[u0, u1, u2, u3, u4, u5] from (h.got 0 13 (hw2 ⟨0, .data⟩ (by simp) rfl) rfl))) (eval_G (show G fa 15 = .agg #[.int .i64 a.kd, .bool y1, .int .i64 c1, .int .i64 x1, .string t1, .slice l1 n1 p1] from (h.got 2 15 (hw2 ⟨2, .data⟩ (by simp) rfl) rfl))) callRLess) (unhide K1 _ (bv (unhide NB) h.old)) (fun _ _ q => q)
    · rintro L fa wx h hcl hL hw2
      exact rl_val h (by decide) rfl rfl rfl (by decide) rfl (run_fldTA (eval_G ((h.keep (s := 2) (by decide)).trans s2))) rfl
    · rintro L fa wx h hcl hL hw2
      exact rl_val h (by decide) rfl rfl rfl (by decide) rfl (run_ldTA (eval_G (show G fa 17 = .pointer (some ⟨w.heap.size, 1, none⟩) from (h.got 4 17 (hw2 ⟨4, .data⟩ (by simp) rfl) rfl))) ((unhide XT).keep h.old (unhide XT).low)) rfl
    · rintro L fa wx h hcl hL hw2
      exact rl_val h (by decide) rfl rfl rfl (by decide) rfl (run_ldX (eval_G ((h.keep (s := 3) (by decide)).trans s3)) ((unhide XV).keep h.old (unhide XV).low)) rfl
    · rintro L fa wx h hcl hL hw2
      exact rl_call (R := fun v _ => v = .int .i64 ((m2 : Nat) : Int)) h (by decide) rfl rfl rfl (by decide) rfl (run_call2 (eval_G (show G fa 18 = .agg #[.int .i64 a.kd, .bool y1, .int .i64 c1, .int .i64 x1, .string t1, .slice l1 n1 p1] from (h.got 5 18 (hw2 ⟨5, .data⟩ (by simp) rfl) rfl))) (eval_G (show G fa 19 = .agg #[u0, u1, u2, u3, u4, u5] from (h.got 6 19 (hw2 ⟨6, .data⟩ (by simp) rfl) rfl))) callRLess) (unhide K2 _ (bv (unhide NB) h.old)) (fun _ _ q => q)
    · rintro L fa wx h hcl hL hw2
      exact rl_val h (by decide) rfl rfl rfl (by decide) rfl (run_asg (eval_G (show G fa 16 = .int .i64 ((m1 : Nat) : Int) from (h.got 3 16 (hw2 ⟨3, .data⟩ (by simp) rfl) rfl)))) rfl
    · rintro L fa wx h hcl hL hw2
      exact rl_val h (by decide) rfl rfl rfl (by decide) rfl (run_asg (eval_G (show G fa 20 = .int .i64 ((m2 : Nat) : Int) from (h.got 7 20 (hw2 ⟨7, .data⟩ (by simp) rfl) rfl)))) rfl
  case done =>
  rintro L f1 w1 h hall
  have q5 : G f1 5 = .int .i64 ((m1 : Nat) : Int) := h.got 8 5 (hall 8 (by simp)) rfl
  have q6 : G f1 6 = .int .i64 ((m2 : Nat) : Int) := h.got 9 6 (hall 9 (by simp)) rfl
  have HB1 := hide (bv (unhide NB) h.old)
  have YT := hide ((unhide XT).keep h.old (unhide XT).low)
  have YV := hide ((unhide XV).keep h.old (unhide XV).low)
  replace s2 := (h.keep (s := 2) (by decide)).trans s2
  replace s3 := (h.keep (s := 3) (by decide)).trans s3
  replace hsz := h.size
  replace hdf := h.defs
  clear h hall hf0 K1 K2 XT XV NB
  obtain ⟨v0, v1, v2, v3, v4, v5, v6, v7, v8, v9, v10, v11, v12, v13, v14, v15, v16, v17, v18, v19, v20, v21, v22, v23, v24, v25, v26, v27, v28, v29, v30, v31, v32, v33, v34, v35, v36, v37, v38, v39, v40, v41, v42, v43, v44, v45, v46, v47, v48, v49, v50, v51, v52, v53, v54, v55, v56, v57, v58, v59, v60, v61, v62, v63, v64, v65, v66, v67, v68, v69, v70, v71, v72, v73, v74, v75, v76, v77, v78, v79, v80, v81, v82, v83, v84, v85, v86, v87, rfl, e2, e3, e5, e6⟩ := frame_rd hsz hdf
  rw [s2] at e2
  rw [s3] at e3
  rw [q5] at e5
  rw [q6] at e6
  subst e2 e3 e5 e6
  clear s2 s3 q5 q6 hsz hdf
  obtain ⟨z0, z1, z2, z3, z4, z5, z6, z7, z8, z9, z10, z11, z12, z13, z14, z15⟩ := (unhide YT).tell
  obtain ⟨g0, g1, g2, g3, g4, g5⟩ := (unhide YV).tell
  have k89 : k = 8 ∨ k = 9 := .inl (unhide HK0)
  obtain ⟨hl20, hne, -⟩ := unhide QK k89
  obtain ⟨bl, off, rfl, hlt, hm⟩ := unhide HK hne
  have hm' := hide hm
  clear hm HK hne QA QB R1 R2 K3 K4 KE
  obtain rfl := unhide HK0
  have HE : Hid (D0 = doesL ks v) := hide (by rw [unhide HD, if_neg (by decide), if_neg (by decide), if_neg (by decide), if_neg (by decide), if_neg (by decide), if_neg (by decide), if_neg (by decide), if_pos rfl])
  clear HD
  go_wp2
  go_loopw [10, 70] (fun l i wr => ∃ m n : Nat, m ≤ ks.length ∧ n ≤ 2 ∧ l = .int .i64 (n : Int) ∧ i = .int .i64 (m : Int) ∧ Hid (doesL ks v = max (2 - n) (doesL (ks.drop m) v)) ∧ Hid (Below w1.heap.size w1 wr)) (fun _ i _ => ks.length - (intOf i).toNat)
  case atStart => exact ⟨0, 2, Nat.zero_le _, Nat.le_refl _, rfl, rfl, hide (by simp), hide (Below.refl _ _)⟩
  case round =>
    obtain ⟨m, n, hml, hn2, rfl, rfl, H, HB⟩ := hrel
    have HW := hide (bv (unhide HB1) (unhide HB))
    have YTr := hide ((unhide YT).keep (unhide HB) (unhide YT).low)
    clear z0 z1 z2 z3 z4 z5 z6 z7 z8 z9 z10 z11 z12 z13 z14 z15 g0 g1 g2 g3 g4 g5
    by_cases hlt2 : m < ks.length
    · have hi1 : (m : Int) < (ks.length : Int) := by omega
      obtain ⟨T, hu⟩ : ∃ u, ks[m]? = some u := ⟨_, List.getElem?_eq_getElem hlt2⟩
      have hdrop := sdrop_at hlt2 hu
      have HU := hide (unhide KD T (List.mem_of_getElem? hu) (by trivial))
      obtain ⟨cs, h6, hmu⟩ := MemSL.at (MemSL.below (unhide HW) hlt (unhide hm')) m T hu
      have HM := hide hmu
      rw [hdrop, rdoesL_cons] at H
      have hmk := doesS_le T v
      cases T with
      | mk k' ta tb oa' ob' kk =>
        rw [MemS] at hmu
        obtain ⟨_, d0, d1, d2, d3, d4, d5, e0, e1, e2, e3, e4, e5, ad', cp, hta, htb, rfl, _⟩ := hmu
        obtain ⟨z1, r1, g1, w1t, j1, i1, o1, rfl, rfl, rfl, rfl, rfl, rfl⟩ := hta.six
        obtain ⟨z2, r2, g2, w2t, j2, i2, o2, rfl, rfl, rfl, rfl, rfl, rfl⟩ := htb.six
        clear hta htb
        obtain ⟨q0, q1, q2, q3, q4, q5, q6, q7, q8, q9, q10, q11, q12, q13, q14, q15⟩ := h6.tell
        obtain ⟨f0, f1, f2, f3, f4, f5⟩ := ((unhide YV).keep (unhide HB) (unhide YV).low).tell
        have lvv := ((unhide YV).keep (unhide HB) (unhide YV).low).low
        clear hu hdrop h6
        have HK2 := hide (bv (unhide HW) (vbelow_new wr (.cells #[.int .i64 k', .int .i64 ta.kd, .bool z1, .int .i64 r1, .int .i64 g1, .string w1t, .slice j1 i1 o1, .int .i64 tb.kd, .bool z2, .int .i64 r2, .int .i64 g2, .string w2t, .slice j2 i2 o2, .bool oa', .bool ob', .slice ad' kk.length cp] 29)))
        have KM := hide (unhide HU _ (wr.alloc (.cells #[.int .i64 k', .int .i64 ta.kd, .bool z1, .int .i64 r1, .int .i64 g1, .string w1t, .slice j1 i1 o1, .int .i64 tb.kd, .bool z2, .int .i64 r2, .int .i64 g2, .string w2t, .slice j2 i2 o2, .bool oa', .bool ob', .slice ad' kk.length cp] 29)) (unhide HK2) (MemS.mono (unhide HK2).size (MemS.below ((vbelow_new wr _).mono (unhide HW).size) (unhide HM))))
        generalize doesS (.mk k' ta tb oa' ob' kk) v = mk at *
        have hsub : IntKind.i64.wrap (2 - (mk : Int)) = ((2 - mk : Nat) : Int) := by rw [IntKind.wrap_i64]; omega
        clear HU HM YTr
        go_wp2_with fail
        refine (unhide KM).mono ?_
        rintro e w2 ⟨rfl, hb2⟩
        have HB2 := hide (bv (unhide HB) (bv (vbelow_new wr _) hb2))
        clear hb2 KM HK2 HW HB q0 q1 q2 q3 q4 q5 q6 q7 q8 q9 q10 q11 q12 q13 q14 q15 f0 f1 f2 f3 f4 f5
        go_wp2_with fail
        refine (least_any n (2 - mk) _).mono ?_
        rintro e w3 ⟨rfl, rfl⟩
        have H2 : Hid (doesL ks v = max (2 - min n (2 - mk)) (doesL (ks.drop (m + 1)) v)) := hide (by rw [unhide H]; omega)
        clear H
        go_wp2
        go_round
        case rel => exact ⟨m + 1, min n (2 - mk), by omega, by omega, rfl, by go_num, H2, HB2⟩
        case measure => simp [intOf]; omega
    · obtain rfl : m = ks.length := by omega
      have H2 : Hid (doesL ks v = 2 - n) := by
        have h := unhide H
        rw [List.drop_length, rdoesL_nil, Nat.max_zero] at h
        exact hide h
      obtain ⟨z0, z1, z2, z3, z4, z5, z6, z7, z8, z9, z10, z11, z12, z13, z14, z15⟩ := (unhide YTr).tell
      have hsub : IntKind.i64.wrap (2 - (n : Int)) = ((2 - n : Nat) : Int) := by rw [IntKind.wrap_i64]; omega
      have HF : Hid (((D0 : Nat) : Int) = ((2 - n : Nat) : Int)) := hide (by rw [unhide HE, unhide H2])
      clear H HE H2
      go_wp2
      go_ret
      rw [unhide HF]
      exact ⟨rfl, unhide HW⟩
end Go.Proofs.YtbdgngfpofohpaaDoor

/- Walks: what the document says a right test says of a right value: none of some. (Written by gen_s11.py.) -/
namespace Go.Proofs.YtbdgngfpofohpaaDoor
open Go.RowKit

set_option maxRecDepth 100000 in
set_option maxHeartbeats 16000000 in
theorem rdoes_k9 (k : Int) (hk0 : k = 9) (a b : Tree) (oa ob : Bool) (ks : List TS) (IH : ∀ u ∈ ks, RDoesC u) : RDoesC (.mk k a b oa ob ks) := by
  have HK0 := hide hk0
  clear hk0
  intro v w q u d hM Mv hw hv
  rw [MemS] at hM
  obtain ⟨hkl, a0, a1, a2, a3, a4, a5, b0, b1, b2, b3, b4, b5, ad, cap, ha, hb, rfl, hks⟩ := hM
  have h4 : ¬ 4 < d := by
    intro h
    rw [ws_much h] at hw
    cases hw
  have hk : ¬ (k < 1 ∨ 9 < k) := by
    intro h
    rw [ws_kind h4 h] at hw
    cases hw
  have QA : Hid (k = 3 ∨ k = 4 ∨ k = 5 ∨ k = 6 ∨ k = 7 → (wrongF a 0 1).1 = 0) := hide (by
    intro h
    by_cases k7 : k = 7
    · subst k7
      rw [ws_in h4] at hw
      exact valW0 (twoW0 hw).1
    · rw [ws_one h4 (by omega)] at hw
      exact valW0 (oneW0 hw))
  have QB : Hid (k = 7 → (wrongF b 0 1).1 = 0) := hide (by
    rintro rfl
    rw [ws_in h4] at hw
    exact valW0 (twoW0 hw).2)
  have QK : Hid (k = 8 ∨ k = 9 → ks.length ≤ 20 ∧ ks ≠ [] ∧ ∀ u ∈ ks, wrongS u (d + 1) = 0) := hide (by
    intro h
    rw [ws_kids h4 h] at hw
    by_cases hn : ks.length < 1 ∨ 20 < ks.length
    · rw [if_pos hn] at hw; cases hw
    · rw [if_neg hn] at hw
      exact ⟨by omega, by intro e; rw [e] at hn; simp at hn, wrongSL0 hw⟩)
  obtain ⟨y1, c1, x1, t1, l1, n1, p1, rfl, rfl, rfl, rfl, rfl, rfl⟩ := ha.six
  obtain ⟨y2, c2, x2, t2, l2, n2, p2, rfl, rfl, rfl, rfl, rfl, rfl⟩ := hb.six
  have K1 := hide (fun wx (hx : Below w.heap.size w wx) => yr (dless_tot v a u _ _ _ wx (Mem.below hx Mv) (Mem.below hx ha)))
  have K2 := hide (fun wx (hx : Below w.heap.size w wx) => yr (dless_tot a v _ u _ _ wx (Mem.below hx ha) (Mem.below hx Mv)))
  have K3 := hide (fun wx (hx : Below w.heap.size w wx) => dless_tot v b u _ _ _ wx (Mem.below hx Mv) (Mem.below hx hb))
  have K4 := hide (fun wx (hx : Below w.heap.size w wx) => dless_tot b v _ u _ _ wx (Mem.below hx hb) (Mem.below hx Mv))
  have KE := hide (fun wx (hx : Below w.heap.size w wx) => dequal_all v a wx u _ (Mem.mono hx.size (Mem.below hx Mv)) (Mem.mono hx.size (Mem.below hx ha)))
  have KD : Hid (∀ T ∈ ks, (k = 8 ∨ k = 9) → ∀ q wx, Below w.heap.size w wx → MemS wx.heap.size wx T q → Calls Tryd.prog 10 #[.agg q, .agg u] wx fun e w' => e = .returned (.int .i64 ((doesS T v : Nat) : Int)) ∧ Below wx.heap.size wx w') :=
    hide fun T hT h q wx hx hq => IH T hT v wx q u (d + 1) hq (Mem.mono hx.size (Mem.below hx Mv)) ((unhide QK h).2.2 T hT) hv
  have lm1 := lessD_le v a
  have lm2 := lessD_le a v
  have lm3 := lessD_le v b
  have lm4 := lessD_le b v
  have HD := hide (show doesS (.mk k a b oa ob ks) v = _ from by rw [doesS])
  have R1 : Hid ((wrongF a 0 1).1 = 0 → lessH v a = lessD v a ∧ lessH a v = lessD a v) := hide fun h => ⟨(lessD_is hv h).symm, (lessD_is h hv).symm⟩
  have R2 : Hid ((wrongF b 0 1).1 = 0 → lessH v b = lessD v b ∧ lessH b v = lessD b v) := hide fun h => ⟨(lessD_is hv h).symm, (lessD_is h hv).symm⟩
  have HK := hide hks
  generalize doesS (.mk k a b oa ob ks) v = D0 at *
  generalize lessD v a = m1 at *
  generalize lessD a v = m2 at *
  generalize lessD v b = m3 at *
  generalize lessD b v = m4 at *
  obtain ⟨u0, u1, u2, u3, u4, u5, rfl⟩ := Mv.arr
  clear ha hb Mv hw hv hks IH
  obtain ⟨wB, hwB⟩ : ∃ wB, wB = (w.alloc (.cells #[.int .i64 k, .int .i64 a.kd, .bool y1, .int .i64 c1, .int .i64 x1, .string t1, .slice l1 n1 p1, .int .i64 b.kd, .bool y2, .int .i64 c2, .int .i64 x2, .string t2, .slice l2 n2 p2, .bool oa, .bool ob, .slice ad ks.length cap] 29)).alloc (.cells #[u0, u1, u2, u3, u4, u5] 26) := ⟨_, rfl⟩
  have NB : Hid (Below w.heap.size w wB) := hide (by rw [hwB]; exact bv (vbelow_new _ _) (vbelow_new _ _))
  have XT : Hid (B16 wB w.heap.size #[.int .i64 k, .int .i64 a.kd, .bool y1, .int .i64 c1, .int .i64 x1, .string t1, .slice l1 n1 p1, .int .i64 b.kd, .bool y2, .int .i64 c2, .int .i64 x2, .string t2, .slice l2 n2 p2, .bool oa, .bool ob, .slice ad ks.length cap]) := hide (by rw [hwB]; exact B16.new.over)
  have XV : Hid (Box wB (w.heap.size + 1) #[u0, u1, u2, u3, u4, u5]) := hide (by
    rw [hwB]
    have := Box.new (w := w.alloc (.cells #[.int .i64 k, .int .i64 a.kd, .bool y1, .int .i64 c1, .int .i64 x1, .string t1, .slice l1 n1 p1, .int .i64 b.kd, .bool y2, .int .i64 c2, .int .i64 x2, .string t2, .slice l2 n2 p2, .bool oa, .bool ob, .slice ad ks.length cap] 29)) (t := 26) (a0 := u0) (a1 := u1) (a2 := u2) (a3 := u3) (a4 := u4) (a5 := u5)
    simpa using this)
  go_enter Tryd.func10, Tryd.ntmps10
  go_upto_region 1 with fail
  rw [← hwB]
  clear hwB
  refine frame_name ?_
  intro f0 hf0
  have s2 : G f0 2 = .pointer (some ⟨w.heap.size, 0, none⟩) := by rw [hf0]; rfl
  have s3 : G f0 3 = .pointer (some ⟨w.heap.size + 1, 0, none⟩) := by rw [hf0]; rfl
  have hsz : f0.tmps.size = 88 := by rw [hf0]; rfl
  have hdf : f0.defers = [] := by rw [hf0]
  refine region_any (I := RL wB f0 88 [13, 14, 15, 16, 17, 18, 19, 20, 5, 6] [.lit (.agg #[u0, u1, u2, u3, u4, u5]), .lit (.pointer (some ⟨w.heap.size, 1, none⟩)), .lit (.agg #[.int .i64 a.kd, .bool y1, .int .i64 c1, .int .i64 x1, .string t1, .slice l1 n1 p1]), .lit (.int .i64 ((m1 : Nat) : Int)), .lit (.pointer (some ⟨w.heap.size, 1, none⟩)), .lit (.agg #[.int .i64 a.kd, .bool y1, .int .i64 c1, .int .i64 x1, .string t1, .slice l1 n1 p1]), .lit (.agg #[u0, u1, u2, u3, u4, u5]), .lit (.int .i64 ((m2 : Nat) : Int)), .lit (.int .i64 ((m1 : Nat) : Int)), .lit (.int .i64 ((m2 : Nat) : Int))]) (by kernel_rfl) ?wait ?step ?done ?start
  case wait => exact ⟨by simp, by simp, by simp, by simp, by simp, by simp, by simp, by simp, by simp, by simp, trivial⟩
  case start => exact RI.start hsz hdf ((Below.refl _ _).drew)
  case step =>
    refine ⟨?_, ?_, ?_, ?_, ?_, ?_, ?_, ?_, ?_, ?_, trivial⟩
    · rintro L fa wx h hcl hL hw2
      exact rl_val h (by decide) rfl rfl rfl (by decide) rfl (run_ldX (eval_G ((h.keep (s := 3) (by decide)).trans s3)) ((unhide XV).keep h.old (unhide XV).low)) rfl
    · rintro L fa wx h hcl hL hw2
      exact rl_val h (by decide) rfl rfl rfl (by decide) rfl (run_fldTA (eval_G ((h.keep (s := 2) (by decide)).trans s2))) rfl
    · rintro L fa wx h hcl hL hw2
      exact rl_val h (by decide) rfl rfl rfl (by decide) rfl (run_ldTA (eval_G (show G fa 14 = .pointer (some ⟨w.heap.size, 1, none⟩) from (h.got 1 14 (hw2 ⟨1, .data⟩ (by simp) rfl) rfl))) ((unhide XT).keep h.old (unhide XT).low)) rfl
    · rintro L fa wx h hcl hL hw2
      exact rl_call (R := fun v _ => v = .int .i64 ((m1 : Nat) : Int)) h (by decide) rfl rfl rfl (by decide) rfl (run_call2 (eval_G (show G fa 13 = .agg #[u0, u1, u2, u3, u4, u5] from (h.got 0 13 (hw2 ⟨0, .data⟩ (by simp) rfl) rfl))) (eval_G (show G fa 15 = .agg #[.int .i64 a.kd, .bool y1, .int .i64 c1, .int .i64 x1, .string t1, .slice l1 n1 p1] from (h.got 2 15 (hw2 ⟨2, .data⟩ (by simp) rfl) rfl))) callRLess) (unhide K1 _ (bv (unhide NB) h.old)) (fun _ _ q => q)
    · rintro L fa wx h hcl hL hw2
      exact rl_val h (by decide) rfl rfl rfl (by decide) rfl (run_fldTA (eval_G ((h.keep (s := 2) (by decide)).trans s2))) rfl
    · rintro L fa wx h hcl hL hw2
      exact rl_val h (by decide) rfl rfl rfl (by decide) rfl (run_ldTA (eval_G (show G fa 17 = .pointer (some ⟨w.heap.size, 1, none⟩) from (h.got 4 17 (hw2 ⟨4, .data⟩ (by simp) rfl) rfl))) ((unhide XT).keep h.old (unhide XT).low)) rfl
    · rintro L fa wx h hcl hL hw2
      exact rl_val h (by decide) rfl rfl rfl (by decide) rfl (run_ldX (eval_G ((h.keep (s := 3) (by decide)).trans s3)) ((unhide XV).keep h.old (unhide XV).low)) rfl
    · rintro L fa wx h hcl hL hw2
      exact rl_call (R := fun v _ => v = .int .i64 ((m2 : Nat) : Int)) h (by decide) rfl rfl rfl (by decide) rfl (run_call2 (eval_G (show G fa 18 = .agg #[.int .i64 a.kd, .bool y1, .int .i64 c1, .int .i64 x1, .string t1, .slice l1 n1 p1] from (h.got 5 18 (hw2 ⟨5, .data⟩ (by simp) rfl) rfl))) (eval_G (show G fa 19 = .agg #[u0, u1, u2, u3, u4, u5] from (h.got 6 19 (hw2 ⟨6, .data⟩ (by simp) rfl) rfl))) callRLess) (unhide K2 _ (bv (unhide NB) h.old)) (fun _ _ q => q)
    · rintro L fa wx h hcl hL hw2
      exact rl_val h (by decide) rfl rfl rfl (by decide) rfl (run_asg (eval_G (show G fa 16 = .int .i64 ((m1 : Nat) : Int) from (h.got 3 16 (hw2 ⟨3, .data⟩ (by simp) rfl) rfl)))) rfl
    · rintro L fa wx h hcl hL hw2
      exact rl_val h (by decide) rfl rfl rfl (by decide) rfl (run_asg (eval_G (show G fa 20 = .int .i64 ((m2 : Nat) : Int) from (h.got 7 20 (hw2 ⟨7, .data⟩ (by simp) rfl) rfl)))) rfl
  case done =>
  rintro L f1 w1 h hall
  have q5 : G f1 5 = .int .i64 ((m1 : Nat) : Int) := h.got 8 5 (hall 8 (by simp)) rfl
  have q6 : G f1 6 = .int .i64 ((m2 : Nat) : Int) := h.got 9 6 (hall 9 (by simp)) rfl
  have HB1 := hide (bv (unhide NB) h.old)
  have YT := hide ((unhide XT).keep h.old (unhide XT).low)
  have YV := hide ((unhide XV).keep h.old (unhide XV).low)
  replace s2 := (h.keep (s := 2) (by decide)).trans s2
  replace s3 := (h.keep (s := 3) (by decide)).trans s3
  replace hsz := h.size
  replace hdf := h.defs
  clear h hall hf0 K1 K2 XT XV NB
  obtain ⟨v0, v1, v2, v3, v4, v5, v6, v7, v8, v9, v10, v11, v12, v13, v14, v15, v16, v17, v18, v19, v20, v21, v22, v23, v24, v25, v26, v27, v28, v29, v30, v31, v32, v33, v34, v35, v36, v37, v38, v39, v40, v41, v42, v43, v44, v45, v46, v47, v48, v49, v50, v51, v52, v53, v54, v55, v56, v57, v58, v59, v60, v61, v62, v63, v64, v65, v66, v67, v68, v69, v70, v71, v72, v73, v74, v75, v76, v77, v78, v79, v80, v81, v82, v83, v84, v85, v86, v87, rfl, e2, e3, e5, e6⟩ := frame_rd hsz hdf
  rw [s2] at e2
  rw [s3] at e3
  rw [q5] at e5
  rw [q6] at e6
  subst e2 e3 e5 e6
  clear s2 s3 q5 q6 hsz hdf
  obtain ⟨z0, z1, z2, z3, z4, z5, z6, z7, z8, z9, z10, z11, z12, z13, z14, z15⟩ := (unhide YT).tell
  obtain ⟨g0, g1, g2, g3, g4, g5⟩ := (unhide YV).tell
  have k89 : k = 8 ∨ k = 9 := .inr (unhide HK0)
  obtain ⟨hl20, hne, -⟩ := unhide QK k89
  obtain ⟨bl, off, rfl, hlt, hm⟩ := unhide HK hne
  have hm' := hide hm
  clear hm HK hne QA QB R1 R2 K3 K4 KE
  obtain rfl := unhide HK0
  have HE : Hid (D0 = 2 - doesL ks v) := hide (by rw [unhide HD, if_neg (by decide), if_neg (by decide), if_neg (by decide), if_neg (by decide), if_neg (by decide), if_neg (by decide), if_neg (by decide), if_neg (by decide)])
  clear HD
  go_wp2
  go_loopw [10, 70] (fun l i wr => ∃ m n : Nat, m ≤ ks.length ∧ n ≤ 2 ∧ l = .int .i64 (n : Int) ∧ i = .int .i64 (m : Int) ∧ Hid (doesL ks v = max (2 - n) (doesL (ks.drop m) v)) ∧ Hid (Below w1.heap.size w1 wr)) (fun _ i _ => ks.length - (intOf i).toNat)
  case atStart => exact ⟨0, 2, Nat.zero_le _, Nat.le_refl _, rfl, rfl, hide (by simp), hide (Below.refl _ _)⟩
  case round =>
    obtain ⟨m, n, hml, hn2, rfl, rfl, H, HB⟩ := hrel
    have HW := hide (bv (unhide HB1) (unhide HB))
    have YTr := hide ((unhide YT).keep (unhide HB) (unhide YT).low)
    clear z0 z1 z2 z3 z4 z5 z6 z7 z8 z9 z10 z11 z12 z13 z14 z15 g0 g1 g2 g3 g4 g5
    by_cases hlt2 : m < ks.length
    · have hi1 : (m : Int) < (ks.length : Int) := by omega
      obtain ⟨T, hu⟩ : ∃ u, ks[m]? = some u := ⟨_, List.getElem?_eq_getElem hlt2⟩
      have hdrop := sdrop_at hlt2 hu
      have HU := hide (unhide KD T (List.mem_of_getElem? hu) (by trivial))
      obtain ⟨cs, h6, hmu⟩ := MemSL.at (MemSL.below (unhide HW) hlt (unhide hm')) m T hu
      have HM := hide hmu
      rw [hdrop, rdoesL_cons] at H
      have hmk := doesS_le T v
      cases T with
      | mk k' ta tb oa' ob' kk =>
        rw [MemS] at hmu
        obtain ⟨_, d0, d1, d2, d3, d4, d5, e0, e1, e2, e3, e4, e5, ad', cp, hta, htb, rfl, _⟩ := hmu
        obtain ⟨z1, r1, g1, w1t, j1, i1, o1, rfl, rfl, rfl, rfl, rfl, rfl⟩ := hta.six
        obtain ⟨z2, r2, g2, w2t, j2, i2, o2, rfl, rfl, rfl, rfl, rfl, rfl⟩ := htb.six
        clear hta htb
        obtain ⟨q0, q1, q2, q3, q4, q5, q6, q7, q8, q9, q10, q11, q12, q13, q14, q15⟩ := h6.tell
        obtain ⟨f0, f1, f2, f3, f4, f5⟩ := ((unhide YV).keep (unhide HB) (unhide YV).low).tell
        have lvv := ((unhide YV).keep (unhide HB) (unhide YV).low).low
        clear hu hdrop h6
        have HK2 := hide (bv (unhide HW) (vbelow_new wr (.cells #[.int .i64 k', .int .i64 ta.kd, .bool z1, .int .i64 r1, .int .i64 g1, .string w1t, .slice j1 i1 o1, .int .i64 tb.kd, .bool z2, .int .i64 r2, .int .i64 g2, .string w2t, .slice j2 i2 o2, .bool oa', .bool ob', .slice ad' kk.length cp] 29)))
        have KM := hide (unhide HU _ (wr.alloc (.cells #[.int .i64 k', .int .i64 ta.kd, .bool z1, .int .i64 r1, .int .i64 g1, .string w1t, .slice j1 i1 o1, .int .i64 tb.kd, .bool z2, .int .i64 r2, .int .i64 g2, .string w2t, .slice j2 i2 o2, .bool oa', .bool ob', .slice ad' kk.length cp] 29)) (unhide HK2) (MemS.mono (unhide HK2).size (MemS.below ((vbelow_new wr _).mono (unhide HW).size) (unhide HM))))
        generalize doesS (.mk k' ta tb oa' ob' kk) v = mk at *
        have hsub : IntKind.i64.wrap (2 - (mk : Int)) = ((2 - mk : Nat) : Int) := by rw [IntKind.wrap_i64]; omega
        clear HU HM YTr
        go_wp2_with fail
        refine (unhide KM).mono ?_
        rintro e w2 ⟨rfl, hb2⟩
        have HB2 := hide (bv (unhide HB) (bv (vbelow_new wr _) hb2))
        clear hb2 KM HK2 HW HB q0 q1 q2 q3 q4 q5 q6 q7 q8 q9 q10 q11 q12 q13 q14 q15 f0 f1 f2 f3 f4 f5
        go_wp2_with fail
        refine (least_any n (2 - mk) _).mono ?_
        rintro e w3 ⟨rfl, rfl⟩
        have H2 : Hid (doesL ks v = max (2 - min n (2 - mk)) (doesL (ks.drop (m + 1)) v)) := hide (by rw [unhide H]; omega)
        clear H
        go_wp2
        go_round
        case rel => exact ⟨m + 1, min n (2 - mk), by omega, by omega, rfl, by go_num, H2, HB2⟩
        case measure => simp [intOf]; omega
    · obtain rfl : m = ks.length := by omega
      have H2 : Hid (doesL ks v = 2 - n) := by
        have h := unhide H
        rw [List.drop_length, rdoesL_nil, Nat.max_zero] at h
        exact hide h
      obtain ⟨z0, z1, z2, z3, z4, z5, z6, z7, z8, z9, z10, z11, z12, z13, z14, z15⟩ := (unhide YTr).tell
      have hsub : IntKind.i64.wrap (2 - (n : Int)) = ((2 - n : Nat) : Int) := by rw [IntKind.wrap_i64]; omega
      have HF : Hid (((D0 : Nat) : Int) = (n : Int)) := hide (by rw [unhide HE, unhide H2]; omega)
      clear H HE H2
      go_wp2
      go_ret
      rw [unhide HF]
      exact ⟨rfl, unhide HW⟩
end Go.Proofs.YtbdgngfpofohpaaDoor

/- Walks: what the document says any right test says of a right value. (Written by gen_s11.py.) -/
namespace Go.Proofs.YtbdgngfpofohpaaDoor
open Go.RowKit

theorem rdoes_of (k : Int) (a b : Tree) (oa ob : Bool) (ks : List TS) (IH : ∀ u ∈ ks, RDoesC u) : RDoesC (.mk k a b oa ob ks) := by
  by_cases k7 : k < 7
  · exact rdoes_flat k k7 a b oa ob ks IH
  by_cases k70 : k = 7
  · exact rdoes_in k k70 a b oa ob ks IH
  by_cases k8 : k = 8
  · exact rdoes_k8 k k8 a b oa ob ks IH
  by_cases k9 : k = 9
  · exact rdoes_k9 k k9 a b oa ob ks IH
  · intro v w q u d hM Mv hw hv
    have h4 : ¬ 4 < d := by
      intro h
      rw [ws_much h] at hw
      cases hw
    rw [ws_kind h4 (by omega)] at hw
    cases hw

mutual
theorem rdoes_all : ∀ T : TS, RDoesC T
  | .mk k a b oa ob ks => rdoes_of k a b oa ob ks (fun u h => rdoes_alls ks u h)
theorem rdoes_alls : ∀ (ks : List TS) (u : TS), u ∈ ks → RDoesC u
  | [], u, h => by cases h
  | v :: vs, u, h => by
    by_cases e : u = v
    · rw [e]; exact rdoes_all v
    · exact rdoes_alls vs u ((List.mem_cons.1 h).resolve_left e)
end
end Go.Proofs.YtbdgngfpofohpaaDoor
