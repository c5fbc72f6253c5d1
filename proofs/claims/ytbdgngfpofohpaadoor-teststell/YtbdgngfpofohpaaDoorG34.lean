/- Walks: the document's Equal of any two values. -/
import Derived.Test.YtbdgngfpofohpaaDoorG33
import Derived.Test.YtbdgngfpofohpaaDoorG28
namespace Go.Proofs.YtbdgngfpofohpaaDoor
open Go.RowKit

theorem dequal_of (k : Int) (y : Bool) (c x : Int) (t : ByteArray) (ks : List Tree) (IH : ∀ u ∈ ks, DEqC u) : DEqC (.mk k y c x t ks) := by
  intro B w v u hM hM'
  obtain ⟨k', y', c', x', t', ks'⟩ := B
  rw [Mem] at hM hM'
  obtain ⟨_, hmax, a, cap, rfl, hks⟩ := hM
  obtain ⟨_, _, a', cap', rfl, hks'⟩ := hM'
  by_cases h5 : k = 5 ∧ k' = 5
  · obtain ⟨rfl, rfl⟩ := h5
    by_cases hl : ks.length = ks'.length
    · by_cases hnil : ks = []
      · subst hnil
        have hnil' : ks' = [] := List.eq_nil_of_length_eq_zero hl.symm
        subst hnil'
        rw [ep_list, if_pos rfl, eqPL_nil]
        exact dequal_nil y c x t y' c' x' t' a a' cap cap' w
      · have hnil' : ks' ≠ [] := by
          intro q
          subst q
          exact hnil (List.eq_nil_of_length_eq_zero hl)
        obtain ⟨b, off, rfl, hb, hm⟩ := hks hnil
        obtain ⟨b', off', rfl, hb', hm'⟩ := hks' hnil'
        rw [ep_list, if_pos hl, ← hl]
        exact dequal_lists y c x t y' c' x' t' ks ks' IH b off b' off' cap cap' w hl hmax hb hb' hm hm'
    · exact dequal_len y c x t y' c' x' t' ks ks' a a' cap cap' w hl
  · exact dequal_plain k y c x t k' y' c' x' t' ks ks' a a' cap cap' w (by omega)

mutual
theorem dequal_all : ∀ T : Tree, DEqC T
  | .mk k y c x t ks => dequal_of k y c x t ks (fun u h => dequal_alls ks u h)
theorem dequal_alls : ∀ (ks : List Tree) (u : Tree), u ∈ ks → DEqC u
  | [], u, h => by cases h
  | v :: vs, u, h => by
    by_cases e : u = v
    · rw [e]; exact dequal_all v
    · exact dequal_alls vs u ((List.mem_cons.1 h).resolve_left e)
end
end Go.Proofs.YtbdgngfpofohpaaDoor

/- Walks: what the document says a right test says of a right value. (Written by gen_s11.py.) -/
namespace Go.Proofs.YtbdgngfpofohpaaDoor
open Go.RowKit

theorem callRLess (zs : Array Value) (w : World) : Sem.run Tryd.prog (callFunc 18 zs) w = .ok (.enter 18 zs) w := by simp [go_sem]
theorem yr {n : Nat} {args : Array Value} {w : World} {v : Value} (h : Calls Tryd.prog n args w fun e w' => e = .returned v ∧ Below w.heap.size w w') : Calls Tryd.prog n args w fun e w' => ∃ u, e = .returned u ∧ u = v ∧ Below w.heap.size w w' :=
  h.mono fun _ _ q => ⟨v, q.1, rfl, q.2⟩

/-- what the document's Does tells of a right test and a right value -/
def RDoesC (T : TS) : Prop := ∀ (v : Tree) (w : World) (q u : Array Value) (d : Nat), MemS w.heap.size w T q → Mem w.heap.size w v u → wrongS T d = 0 → (wrongF v 0 1).1 = 0 →
  Calls Tryd.prog 10 #[.agg q, .agg u] w fun e w' => e = .returned (.int .i64 ((doesS T v : Nat) : Int)) ∧ Below w.heap.size w w'

theorem rdoesL_cons (u : TS) (us : List TS) (v : Tree) : doesL (u :: us) v = max (doesS u v) (doesL us v) := by rw [doesL]
theorem rdoesL_nil (v : Tree) : doesL [] v = 0 := by rw [doesL]

set_option maxRecDepth 100000 in
theorem frame_rd {a : Act} (hs : a.tmps.size = 88) (hd : a.defers = []) :
    ∃ v0 v1 v2 v3 v4 v5 v6 v7 v8 v9 v10 v11 v12 v13 v14 v15 v16 v17 v18 v19 v20 v21 v22 v23 v24 v25 v26 v27 v28 v29 v30 v31 v32 v33 v34 v35 v36 v37 v38 v39 v40 v41 v42 v43 v44 v45 v46 v47 v48 v49 v50 v51 v52 v53 v54 v55 v56 v57 v58 v59 v60 v61 v62 v63 v64 v65 v66 v67 v68 v69 v70 v71 v72 v73 v74 v75 v76 v77 v78 v79 v80 v81 v82 v83 v84 v85 v86 v87 : Value, a = { tmps := #[v0, v1, v2, v3, v4, v5, v6, v7, v8, v9, v10, v11, v12, v13, v14, v15, v16, v17, v18, v19, v20, v21, v22, v23, v24, v25, v26, v27, v28, v29, v30, v31, v32, v33, v34, v35, v36, v37, v38, v39, v40, v41, v42, v43, v44, v45, v46, v47, v48, v49, v50, v51, v52, v53, v54, v55, v56, v57, v58, v59, v60, v61, v62, v63, v64, v65, v66, v67, v68, v69, v70, v71, v72, v73, v74, v75, v76, v77, v78, v79, v80, v81, v82, v83, v84, v85, v86, v87], defers := [] } ∧ v2 = G a 2 ∧ v3 = G a 3 ∧ v5 = G a 5 ∧ v6 = G a 6 := by
  have e : a = { tmps := #[G a 0, G a 1, G a 2, G a 3, G a 4, G a 5, G a 6, G a 7, G a 8, G a 9, G a 10, G a 11, G a 12, G a 13, G a 14, G a 15, G a 16, G a 17, G a 18, G a 19, G a 20, G a 21, G a 22, G a 23, G a 24, G a 25, G a 26, G a 27, G a 28, G a 29, G a 30, G a 31, G a 32, G a 33, G a 34, G a 35, G a 36, G a 37, G a 38, G a 39, G a 40, G a 41, G a 42, G a 43, G a 44, G a 45, G a 46, G a 47, G a 48, G a 49, G a 50, G a 51, G a 52, G a 53, G a 54, G a 55, G a 56, G a 57, G a 58, G a 59, G a 60, G a 61, G a 62, G a 63, G a 64, G a 65, G a 66, G a 67, G a 68, G a 69, G a 70, G a 71, G a 72, G a 73, G a 74, G a 75, G a 76, G a 77, G a 78, G a 79, G a 80, G a 81, G a 82, G a 83, G a 84, G a 85, G a 86, G a 87], defers := [] } := frame_is hs hd
  exact ⟨_, _, _, _, _, _, _, _, _, _, _, _, _, _, _, _, _, _, _, _, _, _, _, _, _, _, _, _, _, _, _, _, _, _, _, _, _, _, _, _, _, _, _, _, _, _, _, _, _, _, _, _, _, _, _, _, _, _, _, _, _, _, _, _, _, _, _, _, _, _, _, _, _, _, _, _, _, _, _, _, _, _, _, _, _, _, _, _, e, rfl, rfl, rfl, rfl⟩
theorem sub_two {n : Nat} (h : n ≤ 2) : ((2 - n : Nat) : Int) = 2 - (n : Int) := by omega
end Go.Proofs.YtbdgngfpofohpaaDoor

/- Walks: what the document says a right test says of a right value: kinds without kids. (Written by gen_s11.py.) -/
namespace Go.Proofs.YtbdgngfpofohpaaDoor
open Go.RowKit

set_option maxRecDepth 100000 in
set_option maxHeartbeats 16000000 in
theorem rdoes_flat (k : Int) (hk0 : k < 7) (a b : Tree) (oa ob : Bool) (ks : List TS) (IH : ∀ u ∈ ks, RDoesC u) : RDoesC (.mk k a b oa ob ks) := by
  have HK0 := hide hk0
  clear hk0
  intro v w q u d hM Mv hw hv
  rw [MemS] at hM
  obtain ⟨hkl, a0, a1, a2, a3, a4, a5, b0, b1, b2, b3, b4, b5, ad, cap, ha, hb, rfl, hks⟩ := hM
  have h4 : ¬ 4 < d := by
    intro h
    rw [ws_much h] at hw
    cases hw
  have hk : ¬ (k < 1 ∨ 9 < k) := by
    intro h
    rw [ws_kind h4 h] at hw
    cases hw
  have QA : Hid (k = 3 ∨ k = 4 ∨ k = 5 ∨ k = 6 ∨ k = 7 → (wrongF a 0 1).1 = 0) := hide (by
    intro h
    by_cases k7 : k = 7
    · subst k7
      rw [ws_in h4] at hw
      exact valW0 (twoW0 hw).1
    · rw [ws_one h4 (by omega)] at hw
      exact valW0 (oneW0 hw))
  have QB : Hid (k = 7 → (wrongF b 0 1).1 = 0) := hide (by
    rintro rfl
    rw [ws_in h4] at hw
    exact valW0 (twoW0 hw).2)
  have QK : Hid (k = 8 ∨ k = 9 → ks.length ≤ 20 ∧ ks ≠ [] ∧ ∀ u ∈ ks, wrongS u (d + 1) = 0) := hide (by
    intro h
    rw [ws_kids h4 h] at hw
    by_cases hn : ks.length < 1 ∨ 20 < ks.length
    · rw [if_pos hn] at hw; cases hw
    · rw [if_neg hn] at hw
      exact ⟨by omega, by intro e; rw [e] at hn; simp at hn, wrongSL0 hw⟩)
  obtain ⟨y1, c1, x1, t1, l1, n1, p1, rfl, rfl, rfl, rfl, rfl, rfl⟩ := ha.six
  obtain ⟨y2, c2, x2, t2, l2, n2, p2, rfl, rfl, rfl, rfl, rfl, rfl⟩ := hb.six
  have K1 := hide (fun wx (hx : Below w.heap.size w wx) => yr (dless_tot v a u _ _ _ wx (Mem.below hx Mv) (Mem.below hx ha)))
  have K2 := hide (fun wx (hx : Below w.heap.size w wx) => yr (dless_tot a v _ u _ _ wx (Mem.below hx ha) (Mem.below hx Mv)))
  have K3 := hide (fun wx (hx : Below w.heap.size w wx) => dless_tot v b u _ _ _ wx (Mem.below hx Mv) (Mem.below hx hb))
  have K4 := hide (fun wx (hx : Below w.heap.size w wx) => dless_tot b v _ u _ _ wx (Mem.below hx hb) (Mem.below hx Mv))
  have KE := hide (fun wx (hx : Below w.heap.size w wx) => dequal_all v a wx u _ (Mem.mono hx.size (Mem.below hx Mv)) (Mem.mono hx.size (Mem.below hx ha)))
  have KD : Hid (∀ T ∈ ks, (k = 8 ∨ k = 9) → ∀ q wx, Below w.heap.size w wx → MemS wx.heap.size wx T q → Calls Tryd.prog 10 #[.agg q, .agg u] wx fun e w' => e = .returned (.int .i64 ((doesS T v : Nat) : Int)) ∧ Below wx.heap.size wx w') :=
    hide fun T hT h q wx hx hq => IH T hT v wx q u (d + 1) hq (Mem.mono hx.size (Mem.below hx Mv)) ((unhide QK h).2.2 T hT) hv
  have lm1 := lessD_le v a
  have lm2 := lessD_le a v
  have lm3 := lessD_le v b
  have lm4 := lessD_le b v
  have HD := hide (show doesS (.mk k a b oa ob ks) v = _ from by rw [doesS])
  have R1 : Hid ((wrongF a 0 1).1 = 0 → lessH v a = lessD v a ∧ lessH a v = lessD a v) := hide fun h => ⟨(lessD_is hv h).symm, (lessD_is h hv).symm⟩
  have R2 : Hid ((wrongF b 0 1).1 = 0 → lessH v b = lessD v b ∧ lessH b v = lessD b v) := hide fun h => ⟨(lessD_is hv h).symm, (lessD_is h hv).symm⟩
  have HK := hide hks
  generalize doesS (.mk k a b oa ob ks) v = D0 at *
  generalize lessD v a = m1 at *
  generalize lessD a v = m2 at *
  generalize lessD v b = m3 at *
  generalize lessD b v = m4 at *
  obtain ⟨u0, u1, u2, u3, u4, u5, rfl⟩ := Mv.arr
  clear ha hb Mv hw hv hks IH
  obtain ⟨wB, hwB⟩ : ∃ wB, wB = (w.alloc (.cells #[.int .i64 k, .int .i64 a.kd, .bool y1, .int .i64 c1, .int .i64 x1, .string t1, .slice l1 n1 p1, .int .i64 b.kd, .bool y2, .int .i64 c2, .int .i64 x2, .string t2, .slice l2 n2 p2, .bool oa, .bool ob, .slice ad ks.length cap] 29)).alloc (.cells #[u0, u1, u2, u3, u4, u5] 26) := ⟨_, rfl⟩
  have NB : Hid (Below w.heap.size w wB) := hide (by rw [hwB]; exact bv (vbelow_new _ _) (vbelow_new _ _))
  have XT : Hid (B16 wB w.heap.size #[.int .i64 k, .int .i64 a.kd, .bool y1, .int .i64 c1, .int .i64 x1, .string t1, .slice l1 n1 p1, .int .i64 b.kd, .bool y2, .int .i64 c2, .int .i64 x2, .string t2, .slice l2 n2 p2, .bool oa, .bool ob, .slice ad ks.length cap]) := hide (by rw [hwB]; exact B16.new.over)
  have XV : Hid (Box wB (w.heap.size + 1) #[u0, u1, u2, u3, u4, u5]) := hide (by
    rw [hwB]
    have := Box.new (w := w.alloc (.cells #[.int .i64 k, .int .i64 a.kd, .bool y1, .int .i64 c1, .int .i64 x1, .string t1, .slice l1 n1 p1, .int .i64 b.kd, .bool y2, .int .i64 c2, .int .i64 x2, .string t2, .slice l2 n2 p2, .bool oa, .bool ob, .slice ad ks.length cap] 29)) (t := 26) (a0 := u0) (a1 := u1) (a2 := u2) (a3 := u3) (a4 := u4) (a5 := u5)
    simpa using this)
  go_enter Tryd.func10, Tryd.ntmps10
  go_upto_region 1 with fail
  rw [← hwB]
  clear hwB
  refine frame_name ?_
  intro f0 hf0
  have s2 : G f0 2 = .pointer (some ⟨w.heap.size, 0, none⟩) := by rw [hf0]; rfl
  have s3 : G f0 3 = .pointer (some ⟨w.heap.size + 1, 0, none⟩) := by rw [hf0]; rfl
  have hsz : f0.tmps.size = 88 := by rw [hf0]; rfl
  have hdf : f0.defers = [] := by rw [hf0]
  refine region_any (I := RL wB f0 88 [13, 14, 15, 16, 17, 18, 19, 20, 5, 6] [.lit (.agg #[u0, u1, u2, u3, u4, u5]), .lit (.pointer (some ⟨w.heap.size, 1, none⟩)), .lit (.agg #[.int .i64 a.kd, .bool y1, .int .i64 c1, .int .i64 x1, .string t1, .slice l1 n1 p1]), .lit (.int .i64 ((m1 : Nat) : Int)), .lit (.pointer (some ⟨w.heap.size, 1, none⟩)), .lit (.agg #[.int .i64 a.kd, .bool y1, .int .i64 c1, .int .i64 x1, .string t1, .slice l1 n1 p1]), .lit (.agg #[u0, u1, u2, u3, u4, u5]), .lit (.int .i64 ((m2 : Nat) : Int)), .lit (.int .i64 ((m1 : Nat) : Int)), .lit (.int .i64 ((m2 : Nat) : Int))]) (by kernel_rfl) ?wait ?step ?done ?start
  case wait => exact ⟨by simp, by simp, by simp, by simp, by simp, by simp, by simp, by simp, by simp, by simp, trivial⟩
  case start => exact RI.start hsz hdf ((Below.refl _ _).drew)
  case step =>
    refine ⟨?_, ?_, ?_, ?_, ?_, ?_, ?_, ?_, ?_, ?_, trivial⟩
    · rintro L fa wx h hcl hL hw2
      exact rl_val h (by decide) rfl rfl rfl (by decide) rfl (run_ldX (eval_G ((h.keep (s := 3) (by decide)).trans s3)) ((unhide XV).keep h.old (unhide XV).low)) rfl
    · rintro L fa wx h hcl hL hw2
      exact rl_val h (by decide) rfl rfl rfl (by decide) rfl (run_fldTA (eval_G ((h.keep (s := 2) (by decide)).trans s2))) rfl
    · rintro L fa wx h hcl hL hw2
      exact rl_val h (by decide) rfl rfl rfl (by decide) rfl (run_ldTA (eval_G (show G fa 14 = .pointer (some ⟨w.heap.size, 1, none⟩) from (h.got 1 14 (hw2 ⟨1, .data⟩ (by simp) rfl) rfl))) ((unhide XT).keep h.old (unhide XT).low)) rfl
    · rintro L fa wx h hcl hL hw2
      exact rl_call (R := fun v _ => v = .int .i64 ((m1 : Nat) : Int)) h (by decide) rfl rfl rfl (by decide) rfl (run_call2 (eval_G (show G fa 13 = .agg #[u0, u1, u2, u3, u4, u5] from (h.got 0 13 (hw2 ⟨0, .data⟩ (by simp) rfl) rfl))) (eval_G (show G fa 15 = .agg #[.int .i64 a.kd, .bool y1, .int .i64 c1, .int .i64 x1, .string t1, .slice l1 n1 p1] from (h.got 2 15 (hw2 ⟨2, .data⟩ (by simp) rfl) rfl))) callRLess) (unhide K1 _ (bv (unhide NB) h.old)) (fun _ _ q => q)
    · rintro L fa wx h hcl hL hw2
      exact rl_val h (by decide) rfl rfl rfl (by decide) rfl (run_fldTA (eval_G ((h.keep (s := 2) (by decide)).trans s2))) rfl
    · rintro L fa wx h hcl hL hw2
      exact rl_val h (by decide) rfl rfl rfl (by decide) rfl (run_ldTA (eval_G (show G fa 17 = .pointer (some ⟨w.heap.size, 1, none⟩) from (h.got 4 17 (hw2 ⟨4, .data⟩ (by simp) rfl) rfl))) ((unhide XT).keep h.old (unhide XT).low)) rfl
    · rintro L fa wx h hcl hL hw2
      exact rl_val h (by decide) rfl rfl rfl (by decide) rfl (run_ldX (eval_G ((h.keep (s := 3) (by decide)).trans s3)) ((unhide XV).keep h.old (unhide XV).low)) rfl
    · rintro L fa wx h hcl hL hw2
      exact rl_call (R := fun v _ => v = .int .i64 ((m2 : Nat) : Int)) h (by decide) rfl rfl rfl (by decide) rfl (run_call2 (eval_G (show G fa 18 = .agg #[.int .i64 a.kd, .bool y1, .int .i64 c1, .int .i64 x1, .string t1, .slice l1 n1 p1] from (h.got 5 18 (hw2 ⟨5, .data⟩ (by simp) rfl) rfl))) (eval_G (show G fa 19 = .agg #[u0, u1, u2, u3, u4, u5] from (h.got 6 19 (hw2 ⟨6, .data⟩ (by simp) rfl) rfl))) callRLess) (unhide K2 _ (bv (unhide NB) h.old)) (fun _ _ q => q)
    · rintro L fa wx h hcl hL hw2
      exact rl_val h (by decide) rfl rfl rfl (by decide) rfl (run_asg (eval_G (show G fa 16 = .int .i64 ((m1 : Nat) : Int) from (h.got 3 16 (hw2 ⟨3, .data⟩ (by simp) rfl) rfl)))) rfl
    · rintro L fa wx h hcl hL hw2
      exact rl_val h (by decide) rfl rfl rfl (by decide) rfl (run_asg (eval_G (show G fa 20 = .int .i64 ((m2 : Nat) : Int) from (h.got 7 20 (hw2 ⟨7, .data⟩ (by simp) rfl) rfl)))) rfl
  case done =>
  rintro L f1 w1 h hall
  have q5 : G f1 5 = .int .i64 ((m1 : Nat) : Int) := h.got 8 5 (hall 8 (by simp)) rfl
  have q6 : G f1 6 = .int .i64 ((m2 : Nat) : Int) := h.got 9 6 (hall 9 (by simp)) rfl
  have HB1 := hide (bv (unhide NB) h.old)
  have YT := hide ((unhide XT).keep h.old (unhide XT).low)
  have YV := hide ((unhide XV).keep h.old (unhide XV).low)
  replace s2 := (h.keep (s := 2) (by decide)).trans s2
  replace s3 := (h.keep (s := 3) (by decide)).trans s3
  replace hsz := h.size
  replace hdf := h.defs
  clear h hall hf0 K1 K2 XT XV NB
  obtain ⟨v0, v1, v2, v3, v4, v5, v6, v7, v8, v9, v10, v11, v12, v13, v14, v15, v16, v17, v18, v19, v20, v21, v22, v23, v24, v25, v26, v27, v28, v29, v30, v31, v32, v33, v34, v35, v36, v37, v38, v39, v40, v41, v42, v43, v44, v45, v46, v47, v48, v49, v50, v51, v52, v53, v54, v55, v56, v57, v58, v59, v60, v61, v62, v63, v64, v65, v66, v67, v68, v69, v70, v71, v72, v73, v74, v75, v76, v77, v78, v79, v80, v81, v82, v83, v84, v85, v86, v87, rfl, e2, e3, e5, e6⟩ := frame_rd hsz hdf
  rw [s2] at e2
  rw [s3] at e3
  rw [q5] at e5
  rw [q6] at e6
  subst e2 e3 e5 e6
  clear s2 s3 q5 q6 hsz hdf
  obtain ⟨z0, z1, z2, z3, z4, z5, z6, z7, z8, z9, z10, z11, z12, z13, z14, z15⟩ := (unhide YT).tell
  obtain ⟨g0, g1, g2, g3, g4, g5⟩ := (unhide YV).tell
  by_cases k1 : k = 1
  · subst k1
    have HE : Hid (D0 = 2) := hide (by rw [unhide HD, if_pos rfl])
    clear HD
    go_wp2
    go_ret
    rw [unhide HE]
    exact ⟨rfl, unhide HB1⟩
  by_cases k2 : k = 2
  · subst k2
    have HE : Hid (D0 = eqP v a) := hide (by rw [unhide HD, if_neg (by decide), if_pos rfl])
    clear HD
    go_wp2_with fail
    refine (unhide KE _ (unhide HB1)).mono ?_
    rintro e w2 ⟨rfl, hb⟩
    have HB2 := hide (bv (unhide HB1) hb)
    clear hb
    go_wp2
    go_ret
    rw [unhide HE]
    exact ⟨rfl, unhide HB2⟩
  by_cases k3 : k = 3
  · subst k3
    have HE : Hid (D0 = m1) := hide (by rw [unhide HD, if_neg (by decide), if_neg (by decide), if_pos rfl]; exact (unhide R1 (unhide QA (by omega))).1)
    clear HD
    go_wp2
    go_ret
    rw [unhide HE]
    exact ⟨rfl, unhide HB1⟩
  by_cases k4 : k = 4
  · subst k4
    have HE : Hid (D0 = 2 - m2) := hide (by rw [unhide HD, if_neg (by decide), if_neg (by decide), if_neg (by decide), if_pos rfl, (unhide R1 (unhide QA (by omega))).2])
    have hsub : IntKind.i64.wrap (2 - (m2 : Int)) = 2 - (m2 : Int) := by rw [IntKind.wrap_i64]; omega
    clear HD
    go_wp2
    go_ret
    rw [unhide HE, sub_two lm2]
    exact ⟨rfl, unhide HB1⟩
  by_cases k5 : k = 5
  · subst k5
    have HE : Hid (D0 = m2) := hide (by rw [unhide HD, if_neg (by decide), if_neg (by decide), if_neg (by decide), if_neg (by decide), if_pos rfl]; exact (unhide R1 (unhide QA (by omega))).2)
    clear HD
    go_wp2
    go_ret
    rw [unhide HE]
    exact ⟨rfl, unhide HB1⟩
  by_cases k6 : k = 6
  · subst k6
    have HE : Hid (D0 = 2 - m1) := hide (by rw [unhide HD, if_neg (by decide), if_neg (by decide), if_neg (by decide), if_neg (by decide), if_neg (by decide), if_pos rfl, (unhide R1 (unhide QA (by omega))).1])
    have hsub : IntKind.i64.wrap (2 - (m1 : Int)) = 2 - (m1 : Int) := by rw [IntKind.wrap_i64]; omega
    clear HD
    go_wp2
    go_ret
    rw [unhide HE, sub_two lm1]
    exact ⟨rfl, unhide HB1⟩
  have hk0 := unhide HK0
  omega
end Go.Proofs.YtbdgngfpofohpaaDoor

/- Walks: what the document says a right test says of a right value: from one value to another. (Written by gen_s11.py.) -/
namespace Go.Proofs.YtbdgngfpofohpaaDoor
open Go.RowKit

set_option maxRecDepth 100000 in
set_option maxHeartbeats 16000000 in
theorem rdoes_in (k : Int) (hk0 : k = 7) (a b : Tree) (oa ob : Bool) (ks : List TS) (IH : ∀ u ∈ ks, RDoesC u) : RDoesC (.mk k a b oa ob ks) := by
  have HK0 := hide hk0
  clear hk0
  intro v w q u d hM Mv hw hv
  rw [MemS] at hM
  obtain ⟨hkl, a0, a1, a2, a3, a4, a5, b0, b1, b2, b3, b4, b5, ad, cap, ha, hb, rfl, hks⟩ := hM
  have h4 : ¬ 4 < d := by
    intro h
    rw [ws_much h] at hw
    cases hw
  have hk : ¬ (k < 1 ∨ 9 < k) := by
    intro h
    rw [ws_kind h4 h] at hw
    cases hw
  have QA : Hid (k = 3 ∨ k = 4 ∨ k = 5 ∨ k = 6 ∨ k = 7 → (wrongF a 0 1).1 = 0) := hide (by
    intro h
    by_cases k7 : k = 7
    · subst k7
      rw [ws_in h4] at hw
      exact valW0 (twoW0 hw).1
    · rw [ws_one h4 (by omega)] at hw
      exact valW0 (oneW0 hw))
  have QB : Hid (k = 7 → (wrongF b 0 1).1 = 0) := hide (by
    rintro rfl
    rw [ws_in h4] at hw
    exact valW0 (twoW0 hw).2)
  have QK : Hid (k = 8 ∨ k = 9 → ks.length ≤ 20 ∧ ks ≠ [] ∧ ∀ u ∈ ks, wrongS u (d + 1) = 0) := hide (by
    intro h
    rw [ws_kids h4 h] at hw
    by_cases hn : ks.length < 1 ∨ 20 < ks.length
    · rw [if_pos hn] at hw; cases hw
    · rw [if_neg hn] at hw
      exact ⟨by omega, by intro e; rw [e] at hn; simp at hn, wrongSL0 hw⟩)
  obtain ⟨y1, c1, x1, t1, l1, n1, p1, rfl, rfl, rfl, rfl, rfl, rfl⟩ := ha.six
  obtain ⟨y2, c2, x2, t2, l2, n2, p2, rfl, rfl, rfl, rfl, rfl, rfl⟩ := hb.six
  have K1 := hide (fun wx (hx : Below w.heap.size w wx) => yr (dless_tot v a u _ _ _ wx (Mem.below hx Mv) (Mem.below hx ha)))
  have K2 := hide (fun wx (hx : Below w.heap.size w wx) => yr (dless_tot a v _ u _ _ wx (Mem.below hx ha) (Mem.below hx Mv)))
  have K3 := hide (fun wx (hx : Below w.heap.size w wx) => dless_tot v b u _ _ _ wx (Mem.below hx Mv) (Mem.below hx hb))
  have K4 := hide (fun wx (hx : Below w.heap.size w wx) => dless_tot b v _ u _ _ wx (Mem.below hx hb) (Mem.below hx Mv))
  have KE := hide (fun wx (hx : Below w.heap.size w wx) => dequal_all v a wx u _ (Mem.mono hx.size (Mem.below hx Mv)) (Mem.mono hx.size (Mem.below hx ha)))
  have KD : Hid (∀ T ∈ ks, (k = 8 ∨ k = 9) → ∀ q wx, Below w.heap.size w wx → MemS wx.heap.size wx T q → Calls Tryd.prog 10 #[.agg q, .agg u] wx fun e w' => e = .returned (.int .i64 ((doesS T v : Nat) : Int)) ∧ Below wx.heap.size wx w') :=
    hide fun T hT h q wx hx hq => IH T hT v wx q u (d + 1) hq (Mem.mono hx.size (Mem.below hx Mv)) ((unhide QK h).2.2 T hT) hv
  have lm1 := lessD_le v a
  have lm2 := lessD_le a v
  have lm3 := lessD_le v b
  have lm4 := lessD_le b v
  have HD := hide (show doesS (.mk k a b oa ob ks) v = _ from by rw [doesS])
  have R1 : Hid ((wrongF a 0 1).1 = 0 → lessH v a = lessD v a ∧ lessH a v = lessD a v) := hide fun h => ⟨(lessD_is hv h).symm, (lessD_is h hv).symm⟩
  have R2 : Hid ((wrongF b 0 1).1 = 0 → lessH v b = lessD v b ∧ lessH b v = lessD b v) := hide fun h => ⟨(lessD_is hv h).symm, (lessD_is h hv).symm⟩
  have HK := hide hks
  generalize doesS (.mk k a b oa ob ks) v = D0 at *
  generalize lessD v a = m1 at *
  generalize lessD a v = m2 at *
  generalize lessD v b = m3 at *
  generalize lessD b v = m4 at *
  obtain ⟨u0, u1, u2, u3, u4, u5, rfl⟩ := Mv.arr
  clear ha hb Mv hw hv hks IH
  obtain ⟨wB, hwB⟩ : ∃ wB, wB = (w.alloc (.cells #[.int .i64 k, .int .i64 a.kd, .bool y1, .int .i64 c1, .int .i64 x1, .string t1, .slice l1 n1 p1, .int .i64 b.kd, .bool y2, .int .i64 c2, .int .i64 x2, .string t2, .slice l2 n2 p2, .bool oa, .bool ob, .slice ad ks.length cap] 29)).alloc (.cells #[u0, u1, u2, u3, u4, u5] 26) := ⟨_, rfl⟩
  have NB : Hid (Below w.heap.size w wB) := hide (by rw [hwB]; exact bv (vbelow_new _ _) (vbelow_new _ _))
  have XT : Hid (B16 wB w.heap.size #[.int .i64 k, .int .i64 a.kd, .bool y1, .int .i64 c1, .int .i64 x1, .string t1, .slice l1 n1 p1, .int .i64 b.kd, .bool y2, .int .i64 c2, .int .i64 x2, .string t2, .slice l2 n2 p2, .bool oa, .bool ob, .slice ad ks.length cap]) := hide (by rw [hwB]; exact B16.new.over)
  have XV : Hid (Box wB (w.heap.size + 1) #[u0, u1, u2, u3, u4, u5]) := hide (by
    rw [hwB]
    have := Box.new (w := w.alloc (.cells #[.int .i64 k, .int .i64 a.kd, .bool y1, .int .i64 c1, .int .i64 x1, .string t1, .slice l1 n1 p1, .int .i64 b.kd, .bool y2, .int .i64 c2, .int .i64 x2, .string t2, .slice l2 n2 p2, .bool oa, .bool ob, .slice ad ks.length cap] 29)) (t := 26) (a0 := u0) (a1 := u1) (a2 := u2) (a3 := u3) (a4 := u4) (a5 := u5)
    simpa using this)
  go_enter Tryd.func10, Tryd.ntmps10
  go_upto_region 1 with fail
  rw [← hwB]
  clear hwB
  refine frame_name ?_
  intro f0 hf0
  have s2 : G f0 2 = .pointer (some ⟨w.heap.size, 0, none⟩) := by rw [hf0]; rfl
  have s3 : G f0 3 = .pointer (some ⟨w.heap.size + 1, 0, none⟩) := by rw [hf0]; rfl
  have hsz : f0.tmps.size = 88 := by rw [hf0]; rfl
  have hdf : f0.defers = [] := by rw [hf0]
  refine region_any (I := RL wB f0 88 [13, 14, 15, 16, 17, 18, 19, 20, 5, 6] [.lit (.agg #[u0, u1, u2, u3, u4, u5]), .lit (.pointer (some ⟨w.heap.size, 1, none⟩)), .lit (.agg #[.int .i64 a.kd, .bool y1, .int .i64 c1, .int .i64 x1, .string t1, .slice l1 n1 p1]), .lit (.int .i64 ((m1 : Nat) : Int)), .lit (.pointer (some ⟨w.heap.size, 1, none⟩)), .lit (.agg #[.int .i64 a.kd, .bool y1, .int .i64 c1, .int .i64 x1, .string t1, .slice l1 n1 p1]), .lit (.agg #[u0, u1, u2, u3, u4, u5]), .lit (.int .i64 ((m2 : Nat) : Int)), .lit (.int .i64 ((m1 : Nat) : Int)), .lit (.int .i64 ((m2 : Nat) : Int))]) (by kernel_rfl) ?wait ?step ?done ?start
  case wait => exact ⟨by simp, by simp, by simp, by simp, by simp, by simp, by simp, by simp, by simp, by simp, trivial⟩
  case start => exact RI.start hsz hdf ((Below.refl _ _).drew)
  case step =>
    refine ⟨?_, ?_, ?_, ?_, ?_, ?_, ?_, ?_, ?_, ?_, trivial⟩
    · rintro L fa wx h hcl hL hw2
      exact rl_val h (by decide) rfl rfl rfl (by decide) rfl (run_ldX (eval_G ((h.keep (s := 3) (by decide)).trans s3)) ((unhide XV).keep h.old (unhide XV).low)) rfl
    · rintro L fa wx h hcl hL hw2
      exact rl_val h (by decide) rfl rfl rfl (by decide) rfl (run_fldTA (eval_G ((h.keep (s := 2) (by decide)).trans s2))) rfl
    · rintro L fa wx h hcl hL hw2
      exact rl_val h (by decide) rfl rfl rfl (by decide) rfl (run_ldTA (eval_G (show G fa 14 = .pointer (some ⟨w.heap.size, 1, none⟩) from (h.got 1 14 (hw2 ⟨1, .data⟩ (by simp) rfl) rfl))) ((unhide XT).keep h.old (unhide XT).low)) rfl
    · rintro L fa wx h hcl hL hw2
      exact rl_call (R := fun v _ => v = .int .i64 ((m1 : Nat) : Int)) h (by decide) rfl rfl rfl (by decide) rfl (run_call2 (eval_G (show G fa 13 = .agg #[u0, u1, u2, u3, u4, u5] from (h.got 0 13 (hw2 ⟨0, .data⟩ (by simp) rfl) rfl))) (eval_G (show G fa 15 = .agg #[.int .i64 a.kd, .bool y1, .int .i64 c1, .int .i64 x1, .string t1, .slice l1 n1 p1] from (h.got 2 15 (hw2 ⟨2, .data⟩ (by simp) rfl) rfl))) callRLess) (unhide K1 _ (bv (unhide NB) h.old)) (fun _ _ q => q)
    · rintro L fa wx h hcl hL hw2
      exact rl_val h (by decide) rfl rfl rfl (by decide) rfl (run_fldTA (eval_G ((h.keep (s := 2) (by decide)).trans s2))) rfl
    · rintro L fa wx h hcl hL hw2
      exact rl_val h (by decide) rfl rfl rfl (by decide) rfl (run_ldTA (eval_G (show G fa 17 = .pointer (some ⟨w.heap.size, 1, none⟩) from (h.got 4 17 (hw2 ⟨4, .data⟩ (by simp) rfl) rfl))) ((unhide XT).keep h.old (unhide XT).low)) rfl
    · rintro L fa wx h hcl hL hw2
      exact rl_val h (by decide) rfl rfl rfl (by decide) rfl (run_ldX (eval_G ((h.keep (s := 3) (by decide)).trans s3)) ((unhide XV).keep h.old (unhide XV).low)) rfl
    · rintro L fa wx h hcl hL hw2
      exact rl_call (R := fun v _ => v = .int .i64 ((m2 : Nat) : Int)) h (by decide) rfl rfl rfl (by decide) rfl (run_call2 (eval_G (show G fa 18 = .agg #[.int .i64 a.kd, .bool y1, .int .i64 c1, .int .i64 x1, .string t1, .slice l1 n1 p1] from (h.got 5 18 (hw2 ⟨5, .data⟩ (by simp) rfl) rfl))) (eval_G (show G fa 19 = .agg #[u0, u1, u2, u3, u4, u5] from (h.got 6 19 (hw2 ⟨6, .data⟩ (by simp) rfl) rfl))) callRLess) (unhide K2 _ (bv (unhide NB) h.old)) (fun _ _ q => q)
    · rintro L fa wx h hcl hL hw2
      exact rl_val h (by decide) rfl rfl rfl (by decide) rfl (run_asg (eval_G (show G fa 16 = .int .i64 ((m1 : Nat) : Int) from (h.got 3 16 (hw2 ⟨3, .data⟩ (by simp) rfl) rfl)))) rfl
    · rintro L fa wx h hcl hL hw2
      exact rl_val h (by decide) rfl rfl rfl (by decide) rfl (run_asg (eval_G (show G fa 20 = .int .i64 ((m2 : Nat) : Int) from (h.got 7 20 (hw2 ⟨7, .data⟩ (by simp) rfl) rfl)))) rfl
  case done =>
  rintro L f1 w1 h hall
  have q5 : G f1 5 = .int .i64 ((m1 : Nat) : Int) := h.got 8 5 (hall 8 (by simp)) rfl
  have q6 : G f1 6 = .int .i64 ((m2 : Nat) : Int) := h.got 9 6 (hall 9 (by simp)) rfl
  have HB1 := hide (bv (unhide NB) h.old)
  have YT := hide ((unhide XT).keep h.old (unhide XT).low)
  have YV := hide ((unhide XV).keep h.old (unhide XV).low)
  replace s2 := (h.keep (s := 2) (by decide)).trans s2
  replace s3 := (h.keep (s := 3) (by decide)).trans s3
  replace hsz := h.size
  replace hdf := h.defs
  clear h hall hf0 K1 K2 XT XV NB
  obtain ⟨v0, v1, v2, v3, v4, v5, v6, v7, v8, v9, v10, v11, v12, v13, v14, v15, v16, v17, v18, v19, v20, v21, v22, v23, v24, v25, v26, v27, v28, v29, v30, v31, v32, v33, v34, v35, v36, v37, v38, v39, v40, v41, v42, v43, v44, v45, v46, v47, v48, v49, v50, v51, v52, v53, v54, v55, v56, v57, v58, v59, v60, v61, v62, v63, v64, v65, v66, v67, v68, v69, v70, v71, v72, v73, v74, v75, v76, v77, v78, v79, v80, v81, v82, v83, v84, v85, v86, v87, rfl, e2, e3, e5, e6⟩ := frame_rd hsz hdf
  rw [s2] at e2
  rw [s3] at e3
  rw [q5] at e5
  rw [q6] at e6
  subst e2 e3 e5 e6
  clear s2 s3 q5 q6 hsz hdf
  obtain ⟨z0, z1, z2, z3, z4, z5, z6, z7, z8, z9, z10, z11, z12, z13, z14, z15⟩ := (unhide YT).tell
  obtain ⟨g0, g1, g2, g3, g4, g5⟩ := (unhide YV).tell
  obtain rfl := unhide HK0
  have HE : Hid (D0 = min (if oa = true then m2 else 2 - m1) (if ob = true then m3 else 2 - m4)) := hide (by
    rw [unhide HD, if_neg (by decide), if_neg (by decide), if_neg (by decide), if_neg (by decide), if_neg (by decide), if_neg (by decide), if_pos rfl, (unhide R1 (unhide QA (by omega))).1, (unhide R1 (unhide QA (by omega))).2, (unhide R2 (unhide QB rfl)).1, (unhide R2 (unhide QB rfl)).2])
  have hsub : IntKind.i64.wrap (2 - (m1 : Int)) = ((2 - m1 : Nat) : Int) := by rw [IntKind.wrap_i64]; omega
  have hsub4 : IntKind.i64.wrap (2 - (m4 : Int)) = ((2 - m4 : Nat) : Int) := by rw [IntKind.wrap_i64]; omega
  clear HD
  cases oa
  · cases ob
    · have HE2 : Hid (D0 = min (2 - m1) (2 - m4)) := HE
      clear HE
      go_wp2_with fail
      refine (unhide K4 _ (unhide HB1)).mono ?_
      rintro e w2 ⟨rfl, hb⟩
      have HB2 := hide (bv (unhide HB1) hb)
      have YT2 := (unhide YT).keep hb (unhide YT).low
      have YV2 := (unhide YV).keep hb (unhide YV).low
      clear hb z0 z1 z2 z3 z4 z5 z6 z7 z8 z9 z10 z11 z12 z13 z14 z15 g0 g1 g2 g3 g4 g5
      obtain ⟨z0, z1, z2, z3, z4, z5, z6, z7, z8, z9, z10, z11, z12, z13, z14, z15⟩ := YT2.tell
      obtain ⟨g0, g1, g2, g3, g4, g5⟩ := YV2.tell
      clear YT2 YV2
      go_wp2_with fail
      refine (least_any (2 - m1) (2 - m4) _).mono ?_
      rintro e w4 ⟨rfl, rfl⟩
      go_wp2
      go_ret
      rw [unhide HE2]
      exact ⟨rfl, unhide HB2⟩
    · have HE2 : Hid (D0 = min (2 - m1) (m3)) := HE
      clear HE
      go_wp2_with fail
      refine (unhide K4 _ (unhide HB1)).mono ?_
      rintro e w2 ⟨rfl, hb⟩
      have HB2 := hide (bv (unhide HB1) hb)
      have YT2 := (unhide YT).keep hb (unhide YT).low
      have YV2 := (unhide YV).keep hb (unhide YV).low
      clear hb z0 z1 z2 z3 z4 z5 z6 z7 z8 z9 z10 z11 z12 z13 z14 z15 g0 g1 g2 g3 g4 g5
      obtain ⟨z0, z1, z2, z3, z4, z5, z6, z7, z8, z9, z10, z11, z12, z13, z14, z15⟩ := YT2.tell
      obtain ⟨g0, g1, g2, g3, g4, g5⟩ := YV2.tell
      clear YT2 YV2
      go_wp2_with fail
      refine (unhide K3 _ (unhide HB2)).mono ?_
      rintro e w3 ⟨rfl, hb⟩
      replace HB2 := hide (bv (unhide HB2) hb)
      clear hb z0 z1 z2 z3 z4 z5 z6 z7 z8 z9 z10 z11 z12 z13 z14 z15 g0 g1 g2 g3 g4 g5
      go_wp2_with fail
      refine (least_any (2 - m1) (m3) _).mono ?_
      rintro e w4 ⟨rfl, rfl⟩
      go_wp2
      go_ret
      rw [unhide HE2]
      exact ⟨rfl, unhide HB2⟩
  · cases ob
    · have HE2 : Hid (D0 = min (m2) (2 - m4)) := HE
      clear HE
      go_wp2_with fail
      refine (unhide K4 _ (unhide HB1)).mono ?_
      rintro e w2 ⟨rfl, hb⟩
      have HB2 := hide (bv (unhide HB1) hb)
      have YT2 := (unhide YT).keep hb (unhide YT).low
      have YV2 := (unhide YV).keep hb (unhide YV).low
      clear hb z0 z1 z2 z3 z4 z5 z6 z7 z8 z9 z10 z11 z12 z13 z14 z15 g0 g1 g2 g3 g4 g5
      obtain ⟨z0, z1, z2, z3, z4, z5, z6, z7, z8, z9, z10, z11, z12, z13, z14, z15⟩ := YT2.tell
      obtain ⟨g0, g1, g2, g3, g4, g5⟩ := YV2.tell
      clear YT2 YV2
      go_wp2_with fail
      refine (least_any (m2) (2 - m4) _).mono ?_
      rintro e w4 ⟨rfl, rfl⟩
      go_wp2
      go_ret
      rw [unhide HE2]
      exact ⟨rfl, unhide HB2⟩
    · have HE2 : Hid (D0 = min (m2) (m3)) := HE
      clear HE
      go_wp2_with fail
      refine (unhide K4 _ (unhide HB1)).mono ?_
      rintro e w2 ⟨rfl, hb⟩
      have HB2 := hide (bv (unhide HB1) hb)
      have YT2 := (unhide YT).keep hb (unhide YT).low
      have YV2 := (unhide YV).keep hb (unhide YV).low
      clear hb z0 z1 z2 z3 z4 z5 z6 z7 z8 z9 z10 z11 z12 z13 z14 z15 g0 g1 g2 g3 g4 g5
      obtain ⟨z0, z1, z2, z3, z4, z5, z6, z7, z8, z9, z10, z11, z12, z13, z14, z15⟩ := YT2.tell
      obtain ⟨g0, g1, g2, g3, g4, g5⟩ := YV2.tell
      clear YT2 YV2
      go_wp2_with fail
      refine (unhide K3 _ (unhide HB2)).mono ?_
      rintro e w3 ⟨rfl, hb⟩
      replace HB2 := hide (bv (unhide HB2) hb)
      clear hb z0 z1 z2 z3 z4 z5 z6 z7 z8 z9 z10 z11 z12 z13 z14 z15 g0 g1 g2 g3 g4 g5
      go_wp2_with fail
      refine (least_any (m2) (m3) _).mono ?_
      rintro e w4 ⟨rfl, rfl⟩
      go_wp2
      go_ret
      rw [unhide HE2]
      exact ⟨rfl, unhide HB2⟩
end Go.Proofs.YtbdgngfpofohpaaDoor
