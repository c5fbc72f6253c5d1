/- Walks: the document's answer: Parse of a text with a sign (written by gen_bt1.py). -/
import Derived.Test.YtibkemolmpcdcaaGreatDoorG14
import Derived.Test.YtibkemolmpcdcaaGreatDoorG13
import Derived.Deep.Cut
import Derived.Deep.LoopGhost
namespace Go.Proofs.YtibkemolmpcdcaaGreatDoor
open Go.RowKit

set_option maxRecDepth 100000 in
set_option maxHeartbeats 8000000 in
theorem rparse_neg (s : ByteArray) (w : World) (hs : s.size ≤ 100) (hB : pB s.data.toList = true) :
    Calls Tryz.prog 5 #[.string s] w fun e w' => e = pRet (parseF s.data.toList) ∧ Below w.heap.size w w' := by
  have hs' : ¬ 100 < (s.size : Int) := by omega
  have hll : s.data.toList.length ≤ 100 := hs
  obtain ⟨P, hP⟩ : ∃ P, parseF s.data.toList = P := ⟨_, rfl⟩
  have hU : pU s.data.toList = s.data.toList.drop 1 ∧ 1 ≤ s.size := by
    obtain ⟨m, e1, e2⟩ := (sign_cut s.data.toList).1 hB
    refine ⟨by rw [e2, e1]; rfl, ?_⟩
    have : s.data.toList.length = m.length + 1 := by rw [e1]; rfl
    have e3 : s.data.toList.length = s.size := rfl
    omega
  have c45 : ∃ h : 0 < s.size, s[0] = 45 := by
    refine ⟨hU.2, ?_⟩
    obtain ⟨m, e1, e2⟩ := (sign_cut s.data.toList).1 hB
    have e3 := toList_at s 0 hU.2
    have e4 : s.data.toList[0]? = some 45 := by rw [e1]; rfl
    have e5 := e3.symm.trans e4
    injection e5
  obtain ⟨hsz, hs0⟩ := c45
  have n0 : (0 : Int) < (s.size : Int) := by omega
  have n1 : (((s[0].toNat : Nat) : Int) == 45) = true := by rw [hs0]; rfl
  have FORM : Hid (pOk (cut1 (s.data.toList.drop 1) 46).1 (cut1 (s.data.toList.drop 1) 46).2.1 (cut1 (s.data.toList.drop 1) 46).2.2 = false → P = (0, 0, 2)) := hide fun h => by
    rw [← hP]
    exact parseF_form hll (by rw [hU.1]; exact h)
  have GOOD : Hid (∀ a h p, cut1 (s.data.toList.drop 1) 46 = (a, h, p) → pOk a h p = true → P = (nC true (vL (a ++ h)) (-(h.length : Int)), nX true (vL (a ++ h)) (-(h.length : Int)), nR true (vL (a ++ h)) (-(h.length : Int)))) := hide fun a h p e1 e2 => by
    rw [← hP, ← hB]
    exact parseF_ok hll (by rw [hU.1]; exact e1) e2
  rw [hP]
  have hbs := hU.2
  clear hP hU hB hll
  obtain ⟨wA, hwA⟩ : ∃ wA, wA = w.alloc (.cells #[.int .i64 0, .int .i64 0] 23) := ⟨_, rfl⟩
  have HNA : Hid (Below w.heap.size w wA) := hide (by rw [hwA]; exact below_new _ _)
  have sA : wA.heap.size = w.heap.size + 1 := by rw [hwA]; simp
  have HRS : Hid (C2 wA w.heap.size 0 0) := hide (by rw [hwA]; exact C2.new w 0 0)
  go_enter Tryz.func5, Tryz.ntmps5
  obtain ⟨wR, hwR⟩ : ∃ wR, wR = ((w.alloc (.cells #[.int .i64 0, .int .i64 0] 23)).alloc (.cells #[.bool false, .slice none 0 0, .bool false, .slice none 0 0] 45)) := ⟨_, rfl⟩
  have HR0 : Hid (RV wR (w.heap.size + 1) 0 1) := hide (by
    rw [hwR]
    have := RV.zero (w.alloc (.cells #[.int .i64 0, .int .i64 0] 23))
    rwa [show (w.alloc (.cells #[.int .i64 0, .int .i64 0] 23)).heap.size = w.heap.size + 1 by simp] at this)
  have HB0 : Hid (Below wA.heap.size wA wR) := hide (by rw [hwR, hwA]; exact below_new _ _)
  go_wp2_with fail
  rw [← hwR]
  go_loopw [4] (fun i wr => ∃ n : Nat, 1 ≤ n ∧ n ≤ s.size ∧ i = .int .i64 (n : Int) ∧ Hid (∀ j (h : j < s.size), 1 ≤ j → j < n → isDg s[j] = true) ∧ Hid (RV wr (w.heap.size + 1) ((vL ((s.data.toList.drop 1).take (n - 1)) : Nat) : Int) 1) ∧ Hid (Below wA.heap.size wA wr)) (fun i _ => s.size - (intOf i).toNat)
  case atStart => exact ⟨1, Nat.le_refl _, hbs, rfl, hide (fun j _ h1 h2 => absurd h2 (by omega)), hide (by simp only [Nat.sub_self, List.take_zero]; exact unhide HR0), HB0⟩
  case round =>
    obtain ⟨n, hnb, hns, rfl, HDG, HR, HB⟩ := hrel
    clear HR0 HB0 hwA hwR
    have sr := (unhide HB).size
    have lv : vL ((s.data.toList.drop 1).take (n - 1)) < 10 ^ 100 := by
      have ha : ((s.data.toList.drop 1).take (n - 1)).all isDg = true := by
        rw [List.all_eq_true]
        intro y hy
        obtain ⟨j, hj, rfl⟩ := List.getElem_of_mem hy
        rw [List.length_take, List.length_drop] at hj
        have hz : s.data.toList.length = s.size := rfl
        have e := drop_at s 1 j (by omega)
        rw [List.getElem_take]
        have : (s.data.toList.drop 1)[j]'(by rw [List.length_drop]; omega) = s[1 + j]'(by omega) := (List.getElem?_eq_some_iff.1 e).2
        rw [this]
        exact unhide HDG (1 + j) (by omega) (by omega) (by omega)
      refine Nat.lt_of_lt_of_le (vL_lt ha) (Dm.p10_le ?_)
      rw [List.length_take]
      omega
    have Lv := Ln_lt10 lv
    go_upto_region 9 with fail
    go_cut [40] from 25 to 55 (fun v wx => v = .bool (dgAt s n) ∧ wx = wr)
    case first =>
      by_cases hn : n < s.size
      · have hn' : (n : Int) < (s.size : Int) := by omega
        by_cases hd : isDg s[n] = true
        · have hb' := isDg_bd hd
          have h1 : (48 : Int) ≤ (s[n].toNat : Int) := by omega
          have h2 : (s[n].toNat : Int) ≤ 57 := by omega
          have HE : Hid (dgAt s n = true) := hide ((dgAt_in hn).trans hd)
          clear hd hb'
          go_wp2_with fail
          go_meet
          case rel => exact ⟨by rw [unhide HE], rfl⟩
        · have HE : Hid (dgAt s n = false) := hide ((dgAt_in hn).trans (by simpa using hd))
          have hb' : (s[n].toNat : Int) < 48 ∨ 57 < (s[n].toNat : Int) := by
            unfold isDg at hd
            simp at hd
            omega
          clear hd
          rcases hb' with hb' | hb'
          · have h1 : ¬ (48 : Int) ≤ (s[n].toNat : Int) := by omega
            go_wp2_with fail
            go_meet
            case rel => exact ⟨by rw [unhide HE], rfl⟩
          · have h1 : (48 : Int) ≤ (s[n].toNat : Int) := by omega
            have h2 : ¬ (s[n].toNat : Int) ≤ 57 := by omega
            go_wp2_with fail
            go_meet
            case rel => exact ⟨by rw [unhide HE], rfl⟩
      · have hn' : ¬ (n : Int) < (s.size : Int) := by omega
        have HE : Hid (dgAt s n = false) := hide (dgAt_out hn)
        go_wp2_with fail
        go_meet
        case rel => exact ⟨by rw [unhide HE], rfl⟩
    case rest =>
      obtain ⟨wy, rfl⟩ : ∃ wy, wy = wc := ⟨_, rfl⟩
      obtain ⟨rfl, rfl⟩ := hcut
      by_cases hdg : dgAt s n = true
      · rw [hdg]
        have hn : n < s.size := by
          rcases Nat.lt_or_ge n s.size with k | k
          · exact k
          · rw [dgAt_out (by omega)] at hdg; cases hdg
        have hd : isDg s[n] = true := (dgAt_in hn).symm.trans hdg
        have hb' := isDg_bd hd
        have hn' : (n : Int) < (s.size : Int) := by omega
        obtain ⟨d, hdd⟩ : ∃ d : Nat, d = s[n].toNat - 48 := ⟨_, rfl⟩
        have e1 : (s[n].toNat : Int) - 48 = (d : Int) := by omega
        have wru : IntKind.u8.wrap (d : Int) = (d : Int) := by rw [IntKind.wrap_u8]; omega
        have wri : IntKind.i64.wrap (d : Int) = (d : Int) := by rw [IntKind.wrap_i64]; omega
        have hd9 : d ≤ 9 := by omega
        have HV2 : Hid (vL ((s.data.toList.drop 1).take (n + 1 - 1)) = vL ((s.data.toList.drop 1).take (n - 1)) * 10 + d) := hide (by rw [vL_step hnb hn, hdd])
        have HDG2 : Hid (∀ j (h : j < s.size), 1 ≤ j → j < n + 1 → isDg s[j] = true) := hide fun j hj h1 h2 => by
          by_cases e : j = n
          · subst e; exact hd
          · exact unhide HDG j hj h1 (by omega)
        obtain ⟨V, hV⟩ : ∃ V, vL ((s.data.toList.drop 1).take (n - 1)) = V := ⟨_, rfl⟩
        rw [hV] at HR Lv HV2
        have NT := hide (newRat_any 10 1 wy (by omega) (by omega) (by omega) (by omega))
        clear hdg hd hb' hdd hV HDG lv
        go_wp2_with fail
        refine (unhide NT).mono ?_
        rintro e w1 ⟨rfl, r1, hb1⟩
        have MU := hide (rmul_any (w.heap.size + 1) (w.heap.size + 1) wy.heap.size (V : Int) 1 10 1 w1 ((unhide HR).below hb1).place ((unhide HR).below hb1) r1 (by omega) (by omega) (by omega) (Nat.le_trans (Ln_small (x := 1) (by decide)) (by omega)) (Nat.le_trans (Ln_small (x := 10) (by decide)) (by omega)) (Nat.le_trans (Ln_small (x := 1) (by decide)) (by omega)))
        have HB1 := hide (below_step (unhide HB) hb1)
        clear r1 hb1 NT
        go_wp2_with fail
        refine (unhide MU).mono ?_
        rintro e w2 ⟨rfl, r2, k2⟩
        have HR2 : Hid (RV w2 (w.heap.size + 1) ((V : Int) * 10) 1) := hide r2
        have HB2 := hide ((unhide HB1).trans (k2.below (by omega) (unhide HB1).size))
        have ND := hide (newRat_any (d : Int) 1 w2 (by omega) (by omega) (by omega) (by omega))
        clear r2 k2 MU HB1 HR HB
        go_wp2_with fail
        try rw [e1]
        try rw [wru]
        refine (unhide ND).mono ?_
        rintro e w3 ⟨rfl, r3, hb3⟩
        have l3 := Ln_mul (V : Int) 10
        have l4 : Ln 10 ≤ 2 := Ln_small (by decide)
        have AD := hide (radd_any (w.heap.size + 1) (w.heap.size + 1) w2.heap.size ((V : Int) * 10) 1 (d : Int) 1 w3 ((unhide HR2).below hb3).place ((unhide HR2).below hb3) r3 (by omega) (by omega) (by omega) (Nat.le_trans (Ln_small (x := 1) (by decide)) (by omega)) (Nat.le_trans (Ln_small (x := (d : Int)) (by omega)) (by omega)) (Nat.le_trans (Ln_small (x := 1) (by decide)) (by omega)))
        have HB3 := hide (below_step (unhide HB2) hb3)
        clear r3 hb3 ND
        go_wp2_with fail
        refine (unhide AD).mono ?_
        rintro e w4 ⟨rfl, r4, k4⟩
        have HR4 : Hid (RV w4 (w.heap.size + 1) ((vL ((s.data.toList.drop 1).take (n + 1 - 1)) : Nat) : Int) 1) := hide (by
          rw [unhide HV2]
          have e2 : (((V * 10 + d : Nat) : Nat) : Int) = (V : Int) * 10 * 1 + (d : Int) * 1 := by simp
          rw [e2]
          exact r4)
        have HB4 := hide ((unhide HB3).trans (k4.below (by omega) (unhide HB3).size))
        clear r4 k4 AD HB3 HR2 HB2
        go_wp2
        refine ⟨⟨n + 1, by omega, by omega, by first | rfl | go_num, HDG2, HR4, HB4⟩, ?_⟩
        simp [intOf]; omega
      · have hdf : dgAt s n = false := by simpa using hdg
        rw [hdf]
        have RUN := run_of hnb hns (unhide HDG) hdf
        have hl0 := fun h : 1 < n => lead_at (s := s) h hns
        obtain ⟨A, hA⟩ : ∃ A, (s.data.toList.drop 1).take (n - 1) = A := ⟨_, rfl⟩
        have HA := hide hA
        rw [hA] at HR Lv lv hl0
        have HRUN := hide RUN
        clear RUN hdf hA hdg
        go_upto_region 13 with fail
        go_cut [70] from 56 (fun v wx => v = .bool (decide (n = 1) || lead0 A) ∧ wx = wy)
        case first =>
          by_cases h0 : n = 1
          · have hq : ((n : Int) == 1) = true := by rw [beq_iff_eq]; omega
            have HE : Hid ((decide (n = 1) || lead0 A) = true) := hide (by rw [decide_eq_true h0]; rfl)
            clear h0 hl0
            go_wp2_with fail
            go_meet
            case rel => exact ⟨by rw [unhide HE], rfl⟩
          · have hq : ((n : Int) == 1) = false := by rw [beq_eq_false_iff_ne]; omega
            have hlt : 1 < n := by omega
            have hsb : 1 < s.size := by omega
            have HL := hl0 hlt
            have hq3 := byte48 s[1]
            by_cases h1 : (1 : Int) < (n : Int) - 1
            · have HE : Hid (decide (s[1] = 48) = (decide (n = 1) || lead0 A)) := hide (by rw [HL, decide_eq_false h0, decide_eq_true (show 1 < n - 1 by omega)]; rfl)
              clear HL hl0 h0
              go_wp2_with fail
              go_meet
              case rel => exact ⟨by rw [← unhide HE], rfl⟩
            · have HE : Hid ((decide (n = 1) || lead0 A) = false) := hide (by rw [HL, decide_eq_false h0, decide_eq_false (show ¬ 1 < n - 1 by omega)]; rfl)
              clear HL hl0 h0
              go_wp2_with fail
              go_meet
              case rel => exact ⟨by rw [unhide HE], rfl⟩
        case rest =>
          obtain ⟨wz, rfl⟩ : ∃ wz, wz = wc := ⟨_, rfl⟩
          obtain ⟨rfl, rfl⟩ := hcut
          clear hl0
          by_cases hbad : (decide (n = 1) || lead0 A) = true
          · rw [hbad]
            have HP : Hid (P = (0, 0, 2)) := hide (unhide FORM (run_bad (unhide HRUN) (by
              rw [unhide HA]
              have : n = 1 ∨ lead0 A = true := by simpa using hbad
              rcases this with k | k
              · left; omega
              · right; exact k)))
            clear hbad
            have rs := (unhide HRS).below (unhide HB)
            obtain ⟨rl, rr0, rr1, rf0, rf1⟩ := rs
            have hbf := hide ((unhide HNA).trans ((unhide HB).mono (by omega)))
            go_wp2
            refine bodyPost_ret (v := .tuple #[.agg #[.int .i64 0, .int .i64 0], .int .i64 2]) (by simp [results, Tryz.results5, go_sem, rr0, rr1]) rfl ?_
            rw [unhide HP]
            exact ⟨rfl, ((unhide hbf).setCell (by simp) _).setCell (by simp) _⟩
          · have hgood : (decide (n = 1) || lead0 A) = false := by simpa using hbad
            rw [hgood]
            have hne : n ≠ 1 := fun k => hbad (by rw [decide_eq_true k]; rfl)
            have hlead : lead0 A = false := by
              rcases Bool.eq_false_or_eq_true (lead0 A) with k | k
              · exact absurd (by rw [k]; simp) hbad
              · exact k
            have HLEAD := hide hlead
            clear hbad hgood hlead
            by_cases hn : n < s.size
            · have hn' : (n : Int) < (s.size : Int) := by omega
              have hq4 := byte46 s[n]
              by_cases h46 : s[n] = 46
              · rw [decide_eq_true h46] at hq4
                have h46x := hide h46
                have NU := hide (newRat_any 1 1 wz (by omega) (by omega) (by omega) (by omega))
                have lz := (unhide HR).place.low
                clear h46
                go_wp2_with fail
                refine (unhide NU).mono ?_
                rintro e w5 ⟨rfl, ru, hb5⟩
                have HU5 : Hid (RV w5 wz.heap.size 1 ((10 : Int) ^ (n + 1 - (n + 1)))) := hide (by rw [Nat.sub_self, Int.pow_zero]; exact ru)
                have HR5 : Hid (RV w5 (w.heap.size + 1) ((vL A : Nat) : Int) ((10 : Int) ^ 0)) := hide (by rw [Int.pow_zero]; exact (unhide HR).below hb5)
                have HB5 := hide (below_step (unhide HB) hb5)
                have HEQ5 : Hid (((vL A : Nat) : Int) * (10 : Int) ^ (n + 1 - (n + 1)) = ((vL (A ++ (s.data.toList.drop (n + 1)).take (n + 1 - (n + 1))) : Nat) : Int) * (10 : Int) ^ 0) := hide (by rw [Nat.sub_self, Int.pow_zero, List.take_zero, List.append_nil])
                have hAl : A.length ≤ n := by rw [← unhide HA, List.length_take]; omega
                have hAd : A.all isDg = true := by rw [← unhide HA]; exact (unhide HRUN).dig
                have HAD := hide hAd
                have swz := (unhide HB).size
                clear ru hb5 NU HR HB hAd lv Lv
                go_wp2_with fail
                go_loopw [4] (fun i wr => ∃ (n2 e : Nat) (N : Int), n + 1 ≤ n2 ∧ n2 ≤ s.size ∧ i = .int .i64 (n2 : Int) ∧ e ≤ 100 * (n2 - (n + 1)) ∧ Hid (∀ j (h : j < s.size), n + 1 ≤ j → j < n2 → isDg s[j] = true) ∧ Hid (RV wr wz.heap.size 1 ((10 : Int) ^ (n2 - (n + 1)))) ∧ Hid (RV wr (w.heap.size + 1) N ((10 : Int) ^ e)) ∧ Hid (N * (10 : Int) ^ (n2 - (n + 1)) = ((vL (A ++ (s.data.toList.drop (n + 1)).take (n2 - (n + 1))) : Nat) : Int) * (10 : Int) ^ e) ∧ Hid (Below wA.heap.size wA wr)) (fun i _ => s.size - (intOf i).toNat)
                case atStart => exact ⟨n + 1, 0, _, Nat.le_refl _, by omega, by first | rfl | go_num, by omega, hide (fun j _ h1 h2 => absurd h2 (by omega)), HU5, HR5, HEQ5, HB5⟩
                case round =>
                  obtain ⟨n2, e, N, hn2, hs2, rfl, he, HDG2, HU, HR, HEQ, HB⟩ := hrel
                  clear HU5 HR5 HB5 HEQ5
                  have sr2 := (unhide HB).size
                  obtain ⟨k, hk⟩ : ∃ k : Nat, n2 - (n + 1) = k := ⟨_, rfl⟩
                  rw [hk] at HU HEQ he
                  have hk99 : k ≤ 99 := by omega
                  have HK := hide hk
                  have lv2 : vL (A ++ (s.data.toList.drop (n + 1)).take k) < 10 ^ 100 := by
                    have hz : s.data.toList.length = s.size := rfl
                    have ha : ((s.data.toList.drop (n + 1)).take k).all isDg = true := by
                      rw [List.all_eq_true]
                      intro y hy
                      obtain ⟨j, hj, rfl⟩ := List.getElem_of_mem hy
                      rw [List.length_take, List.length_drop] at hj
                      have e := drop_at s (n + 1) j (by omega)
                      rw [List.getElem_take]
                      have : (s.data.toList.drop (n + 1))[j]'(by rw [List.length_drop]; omega) = s[n + 1 + j]'(by omega) := (List.getElem?_eq_some_iff.1 e).2
                      rw [this]
                      exact unhide HDG2 (n + 1 + j) (by omega) (by omega) (by omega)
                    refine Nat.lt_of_lt_of_le (vL_lt (by rw [List.all_append, unhide HAD, ha]; rfl)) (Dm.p10_le ?_)
                    rw [List.length_append, List.length_take]
                    omega
                  have Lv2 := Ln_lt10 lv2
                  have LD := Ln_ten9 e
                  have LE : e / 9 ≤ 1100 := by omega
                  have LN : Ln N ≤ 1300 := by
                    have h1 := congrArg Int.natAbs (unhide HEQ)
                    rw [Int.natAbs_mul] at h1
                    have p1 : 1 ≤ ((10 : Int) ^ k).natAbs := by rw [Int.natAbs_pow]; exact Dm.p10_pos k
                    have h2 : N.natAbs * 1 ≤ N.natAbs * ((10 : Int) ^ k).natAbs := Nat.mul_le_mul_left _ p1
                    have h3 := Ln_mono (x := N) (y := ((vL (A ++ (s.data.toList.drop (n + 1)).take k) : Nat) : Int) * (10 : Int) ^ e) (by omega)
                    have h4 := Ln_mul ((vL (A ++ (s.data.toList.drop (n + 1)).take k) : Nat) : Int) ((10 : Int) ^ e)
                    omega
                  have LK := Ln_ten k
                  go_upto_region 19 with fail
                  go_cut [101] from 86 to 119 (fun v wx => v = .bool (dgAt s n2) ∧ wx = wr)
                  case first =>
                    by_cases hn3 : n2 < s.size
                    · have hn3' : (n2 : Int) < (s.size : Int) := by omega
                      by_cases hd : isDg s[n2] = true
                      · have hb' := isDg_bd hd
                        have h1 : (48 : Int) ≤ (s[n2].toNat : Int) := by omega
                        have h2 : (s[n2].toNat : Int) ≤ 57 := by omega
                        have HE : Hid (dgAt s n2 = true) := hide ((dgAt_in hn3).trans hd)
                        clear hd hb'
                        go_wp2_with fail
                        go_meet
                        case rel => exact ⟨by rw [unhide HE], rfl⟩
                      · have HE : Hid (dgAt s n2 = false) := hide ((dgAt_in hn3).trans (by simpa using hd))
                        have hb' : (s[n2].toNat : Int) < 48 ∨ 57 < (s[n2].toNat : Int) := by
                          unfold isDg at hd
                          simp at hd
                          omega
                        clear hd
                        rcases hb' with hb' | hb'
                        · have h1 : ¬ (48 : Int) ≤ (s[n2].toNat : Int) := by omega
                          go_wp2_with fail
                          go_meet
                          case rel => exact ⟨by rw [unhide HE], rfl⟩
                        · have h1 : (48 : Int) ≤ (s[n2].toNat : Int) := by omega
                          have h2 : ¬ (s[n2].toNat : Int) ≤ 57 := by omega
                          go_wp2_with fail
                          go_meet
                          case rel => exact ⟨by rw [unhide HE], rfl⟩
                    · have hn3' : ¬ (n2 : Int) < (s.size : Int) := by omega
                      have HE : Hid (dgAt s n2 = false) := hide (dgAt_out hn3)
                      go_wp2_with fail
                      go_meet
                      case rel => exact ⟨by rw [unhide HE], rfl⟩
                  case rest =>
                    obtain ⟨wv, rfl⟩ : ∃ wv, wv = wc := ⟨_, rfl⟩
                    obtain ⟨rfl, rfl⟩ := hcut
                    by_cases hdg : dgAt s n2 = true
                    · rw [hdg]
                      have hn3 : n2 < s.size := by
                        rcases Nat.lt_or_ge n2 s.size with q | q
                        · exact q
                        · rw [dgAt_out (by omega)] at hdg; cases hdg
                      have hd : isDg s[n2] = true := (dgAt_in hn3).symm.trans hdg
                      have hb' := isDg_bd hd
                      have hn3' : (n2 : Int) < (s.size : Int) := by omega
                      obtain ⟨d, hdd⟩ : ∃ d : Nat, d = s[n2].toNat - 48 := ⟨_, rfl⟩
                      have e1 : (s[n2].toNat : Int) - 48 = (d : Int) := by omega
                      have wru : IntKind.u8.wrap (d : Int) = (d : Int) := by rw [IntKind.wrap_u8]; omega
                      have wri : IntKind.i64.wrap (d : Int) = (d : Int) := by rw [IntKind.wrap_i64]; omega
                      have hd9 : d ≤ 9 := by omega
                      obtain ⟨V, hV⟩ : ∃ V, vL (A ++ (s.data.toList.drop (n + 1)).take k) = V := ⟨_, rfl⟩
                      have HV2 : Hid (vL (A ++ (s.data.toList.drop (n + 1)).take (n2 + 1 - (n + 1))) = V * 10 + d) := hide (by
                        have q := drop_at s (n + 1) k (by omega)
                        have q2 : n2 + 1 - (n + 1) = k + 1 := by omega
                        have q3 : (s.data.toList.drop (n + 1))[k]? = some s[n2] := by
                          rw [q]
                          have : n + 1 + k = n2 := by omega
                          simp only [this]
                        rw [q2, List.take_add_one, q3, ← List.append_assoc, vL_app, hV, hdd]
                        simp [vL_one])
                      have HDG3 : Hid (∀ j (h : j < s.size), n + 1 ≤ j → j < n2 + 1 → isDg s[j] = true) := hide fun j hj h1 h2 => by
                        by_cases q : j = n2
                        · subst q; exact hd
                        · exact unhide HDG2 j hj h1 (by omega)
                      rw [hV] at HEQ
                      have NT := hide (newRat_any 10 1 wv (by omega) (by omega) (by omega) (by omega))
                      have lu := (unhide HU).place.low
                      clear hdg hd hb' hdd hV HDG2 lv2 Lv2 hk
                      go_wp2_with fail
                      refine (unhide NT).mono ?_
                      rintro e9 y1 ⟨rfl, r1, hb1⟩
                      have QU := hide (rquo_any wz.heap.size wz.heap.size wv.heap.size 1 ((10 : Int) ^ k) 10 1 y1 ((unhide HU).below hb1).place ((unhide HU).below hb1) r1 (pow_ne _) (by omega) (Nat.le_trans (Ln_small (x := 1) (by decide)) (by omega)) (by omega) (Nat.le_trans (Ln_small (x := 10) (by decide)) (by omega)) (Nat.le_trans (Ln_small (x := 1) (by decide)) (by omega)) (by omega))
                      have HB1 := hide (below_step (unhide HB) hb1)
                      have HR1 := hide ((unhide HR).below hb1)
                      have HZU := hide ((unhide HU).below hb1).place
                      clear r1 hb1 NT HU HR HB
                      go_wp2_with fail
                      refine (unhide QU).mono ?_
                      rintro e9 y2 ⟨rfl, r2, k2⟩
                      have HU2 : Hid (RV y2 wz.heap.size 1 ((10 : Int) ^ (k + 1))) := hide (by rw [Int.pow_succ]; exact r2)
                      have HR2 := hide ((unhide HR1).kept (Kept.blk' k2 (unhide HZU) (unhide HR1).place.low (by omega)))
                      have HB2 := hide ((unhide HB1).trans (k2.below (by omega) (unhide HB1).size))
                      have NX := below_new y2 (.cells #[.bool false, .slice none 0 0, .bool false, .slice none 0 0] 45)
                      have ND := hide (newRat_at (d : Int) 1 (y2.alloc (.cells #[.bool false, .slice none 0 0, .bool false, .slice none 0 0] 45)) (y2.heap.size + 1) (by simp) (by omega) (by omega) (by omega) (by omega))
                      have HU3 := hide ((unhide HU2).below NX)
                      have HR3 := hide ((unhide HR2).below NX)
                      have HB3 := hide (below_step (unhide HB2) NX)
                      have HX3 := hide (ZA.newR y2)
                      have ly2 := (unhide HU2).place.low
                      clear r2 k2 QU HB1 HR1 HZU NX HU2 HR2 HB2
                      go_wp2_with fail
                      try rw [e1]
                      try rw [wru]
                      refine (unhide ND).mono ?_
                      rintro e9 y3 ⟨rfl, r3, hb3⟩
                      have LK1 := Ln_ten (k + 1)
                      have MX := hide (rmul_any y2.heap.size wz.heap.size (y2.heap.size + 1) 1 ((10 : Int) ^ (k + 1)) (d : Int) 1 y3 ((unhide HX3).below hb3) ((unhide HU3).below hb3) r3 (pow_ne _) (by omega) (Nat.le_trans (Ln_small (x := 1) (by decide)) (by omega)) (by omega) (Nat.le_trans (Ln_small (x := (d : Int)) (by omega)) (by omega)) (Nat.le_trans (Ln_small (x := 1) (by decide)) (by omega)))
                      have HU4 := hide ((unhide HU3).below hb3)
                      have HR4 := hide ((unhide HR3).below hb3)
                      have HB4 := hide (below_step (unhide HB3) hb3)
                      have HX4 := hide ((unhide HX3).below hb3)
                      clear r3 hb3 ND HU3 HR3 HB3 HX3
                      go_wp2_with fail
                      refine (unhide MX).mono ?_
                      rintro e9 y4 ⟨rfl, r4, k4⟩
                      have HU5 := hide ((unhide HU4).kept (Kept.blk' k4 (unhide HX4) (unhide HU4).place.low (by omega)))
                      have HR5 := hide ((unhide HR4).kept (Kept.blk' k4 (unhide HX4) (unhide HR4).place.low (by omega)))
                      have sy2 := (unhide HB4).size
                      have HB5 := hide ((unhide HB4).trans (k4.below (by omega) (unhide HB4).size))
                      have r5 : RV y4 y2.heap.size (d : Int) ((10 : Int) ^ (k + 1)) := by rw [Int.one_mul, Int.mul_one] at r4; exact r4
                      have AD := hide (radd_any (w.heap.size + 1) (w.heap.size + 1) y2.heap.size N ((10 : Int) ^ e) (d : Int) ((10 : Int) ^ (k + 1)) y4 (unhide HR5).place (unhide HR5) r5 (pow_ne _) (pow_ne _) (by omega) (by omega) (Nat.le_trans (Ln_small (x := (d : Int)) (by omega)) (by omega)) (by omega))
                      have HZR := hide (unhide HR5).place
                      clear r4 k4 r5 MX HU4 HR4 HB4 HX4
                      go_wp2_with fail
                      refine (unhide AD).mono ?_
                      rintro e9 y5 ⟨rfl, r6, k6⟩
                      have HU6 : Hid (RV y5 wz.heap.size 1 ((10 : Int) ^ (n2 + 1 - (n + 1)))) := hide (by
                        have q2 : n2 + 1 - (n + 1) = k + 1 := by have := unhide HK; omega
                        rw [q2]
                        exact (unhide HU5).kept (Kept.blk' k6 (unhide HZR) (unhide HU5).place.low (by omega)))
                      have HR6 : Hid (RV y5 (w.heap.size + 1) (N * (10 : Int) ^ (k + 1) + (d : Int) * (10 : Int) ^ e) ((10 : Int) ^ (e + (k + 1)))) := hide (by rw [show (10 : Int) ^ (e + (k + 1)) = (10 : Int) ^ e * (10 : Int) ^ (k + 1) from Int.pow_add 10 e (k + 1)]; exact r6)
                      have HB6 := hide ((unhide HB5).trans (k6.below (by omega) (unhide HB5).size))
                      have HEQ6 : Hid ((N * (10 : Int) ^ (k + 1) + (d : Int) * (10 : Int) ^ e) * (10 : Int) ^ (n2 + 1 - (n + 1)) = ((vL (A ++ (s.data.toList.drop (n + 1)).take (n2 + 1 - (n + 1))) : Nat) : Int) * (10 : Int) ^ (e + (k + 1))) := hide (by
                        rw [unhide HV2]
                        have q2 : n2 + 1 - (n + 1) = k + 1 := by have := unhide HK; omega
                        rw [q2, show (10 : Int) ^ (e + (k + 1)) = (10 : Int) ^ e * (10 : Int) ^ (k + 1) from Int.pow_add 10 e (k + 1), show (10 : Int) ^ (k + 1) = (10 : Int) ^ k * 10 from Int.pow_succ 10 k]
                        have q3 := unhide HEQ
                        have q4 : (((V * 10 + d : Nat) : Nat) : Int) = (V : Int) * 10 + (d : Int) := by simp
                        rw [q4]
                        generalize (10 : Int) ^ k = X at *
                        generalize (10 : Int) ^ e = Y at *
                        have q5 : N * (X * 10) = (V : Int) * Y * 10 := by rw [← q3]; grind
                        rw [q5]
                        grind)
                      clear r6 k6 AD HU5 HR5 HB5 HZR
                      go_wp2
                      refine ⟨⟨n2 + 1, e + (k + 1), _, by omega, by omega, by first | rfl | go_num, by have := unhide HK; omega, HDG3, HU6, HR6, HEQ6, HB6⟩, ?_⟩
                      simp [intOf]; omega
                    · have hdf : dgAt s n2 = false := by simpa using hdg
                      rw [hdf]
                      have RUN2 := run_of hn2 hs2 (unhide HDG2) hdf
                      rw [hk] at RUN2
                      have PNT : cut1 (s.data.toList.drop 1) 46 = ((s.data.toList.drop 1).take (n - 1), (s.data.toList.drop 1).drop (n - 1 + 1), true) ∧ pOk ((s.data.toList.drop 1).take (n - 1)) ((s.data.toList.drop 1).drop (n - 1 + 1)) true = decide (k = ((s.data.toList.drop 1).drop (n - 1 + 1)).length ∧ k ≠ 0) := by
                        have q1 := drop_at s 1 (n - 1) (by omega)
                        have q2 : 1 + (n - 1) = n := by omega
                        simp only [q2] at q1
                        have q3 : (s.data.toList.drop 1).drop (n - 1 + 1) = s.data.toList.drop (n + 1) := by rw [List.drop_drop]; congr 1; omega
                        exact run_point (unhide HRUN) (by omega) (by rw [unhide HA]; exact unhide HLEAD) (by rw [q1, unhide h46x]) (by rw [q3]; exact RUN2)
                      have hlenM : ((s.data.toList.drop 1).drop (n - 1 + 1)).length = s.size - (n + 1) := by
                        have hz : s.data.toList.length = s.size := rfl
                        rw [List.length_drop, List.length_drop, hz]
                        omega
                      rw [hlenM] at PNT
                      have q3' : (s.data.toList.drop 1).drop (n - 1 + 1) = s.data.toList.drop (n + 1) := by rw [List.drop_drop]; congr 1; omega
                      have HFB : Hid ((k = 0 ∨ n2 < s.size) → P = (0, 0, 2)) := hide fun q => unhide FORM (by
                        rw [PNT.1]
                        exact PNT.2.trans (decide_eq_false (by omega)))
                      have HGD : Hid (k ≠ 0 → n2 = s.size → P = (nC true (vL (A ++ (s.data.toList.drop (n + 1)).take k)) (-(k : Int)), nX true (vL (A ++ (s.data.toList.drop (n + 1)).take k)) (-(k : Int)), nR true (vL (A ++ (s.data.toList.drop (n + 1)).take k)) (-(k : Int)))) := hide fun q1 q2 => by
                        have g3 := unhide GOOD _ _ _ PNT.1 (PNT.2.trans (decide_eq_true ⟨by omega, q1⟩))
                        rw [hlenM, unhide HA, q3', show s.size - (n + 1) = k by omega] at g3
                        rw [show (s.data.toList.drop (n + 1)).take k = s.data.toList.drop (n + 1) by
                          rw [List.take_of_length_le]
                          have hz : s.data.toList.length = s.size := rfl
                          rw [List.length_drop, hz]
                          omega]
                        exact g3
                      clear PNT hlenM q3' RUN2 hdf hdg HDG2 HRUN
                      by_cases hk0 : k = 0
                      · have hq5 : (((n2 : Nat) : Int) == (n : Int) + 1) = true := by rw [beq_iff_eq]; omega
                        have HP := hide (unhide HFB (.inl hk0))
                        clear hk0 hk
                        have rs := (unhide HRS).below (unhide HB)
                        obtain ⟨rl, rr0, rr1, rf0, rf1⟩ := rs
                        have hbf := hide ((unhide HNA).trans ((unhide HB).mono (by omega)))
                        go_wp2
                        refine bodyPost_ret (v := .tuple #[.agg #[.int .i64 0, .int .i64 0], .int .i64 2]) (by simp [results, Tryz.results5, go_sem, rr0, rr1]) rfl ?_
                        rw [unhide HP]
                        exact ⟨rfl, ((unhide hbf).setCell (by simp) _).setCell (by simp) _⟩
                      · have hq5 : (((n2 : Nat) : Int) == (n : Int) + 1) = false := by rw [beq_eq_false_iff_ne]; omega
                        by_cases hn3 : n2 < s.size
                        · have hn3' : (n2 : Int) < (s.size : Int) := by omega
                          have HP := hide (unhide HFB (.inr hn3))
                          clear hk0 hk
                          have rs := (unhide HRS).below (unhide HB)
                          obtain ⟨rl, rr0, rr1, rf0, rf1⟩ := rs
                          have hbf := hide ((unhide HNA).trans ((unhide HB).mono (by omega)))
                          go_wp2
                          refine bodyPost_ret (v := .tuple #[.agg #[.int .i64 0, .int .i64 0], .int .i64 2]) (by simp [results, Tryz.results5, go_sem, rr0, rr1]) rfl ?_
                          rw [unhide HP]
                          exact ⟨rfl, ((unhide hbf).setCell (by simp) _).setCell (by simp) _⟩
                        · have hn3' : ¬ (n2 : Int) < (s.size : Int) := by omega
                          have HDP : Hid ((0 : Int) < (10 : Int) ^ e) := hide (Int.pow_pos (by decide))
                          have HV200 : Hid (vL (A ++ (s.data.toList.drop (n + 1)).take k) < 10 ^ 200) := hide (Nat.lt_of_lt_of_le lv2 (Dm.p10_le (by omega)))
                          have HPG := hide (unhide HGD hk0 (by omega))
                          clear hk0 hk lv2
                          have NG := hide (rneg_any (w.heap.size + 1) (w.heap.size + 1) (N) ((10 : Int) ^ e) wv (unhide HR).place (unhide HR) (by have := unhide HDP; omega) (by omega) (by omega))
                          go_wp2_with fail
                          refine (unhide NG).mono ?_
                          rintro e wn ⟨rfl, rn, kn⟩
                          have HRN := hide rn
                          have HBN := hide ((unhide HB).trans (kn.below (by omega) (unhide HB).size))
                          clear rn kn NG
                          obtain ⟨⟨v1, v2, v3⟩, hv⟩ : ∃ F, fitT (-(N)) ((10 : Int) ^ e) = F := ⟨_, rfl⟩
                          have FT : Hid (Calls Tryz.prog 18 #[.pointer (some ⟨(w.heap.size + 1), 0, none⟩)] wn fun e w' => e = .returned (.tuple #[.agg #[.int .i64 v1, .int .i64 v2], .int .i64 v3]) ∧ Below wn.heap.size wn w') := hide ((fit_any (w.heap.size + 1) (-(N)) ((10 : Int) ^ e) wn (unhide HRN) (unhide HDP) (by rw [Ln_neg]; omega) (by omega)).mono (by
                            rintro e w' ⟨rfl, h⟩
                            exact ⟨by rw [hv]; rfl, h⟩))
                          have HV : Hid (P = (v1, v2, v3)) := hide (by
                            rw [← hv]
                            have := digits_told true (unhide HDP) (unhide HV200) (unhide HEQ)
                            simp only [if_true] at this
                            rw [this]
                            exact unhide HPG)
                          clear hv
                          go_wp2_with fail
                          refine (unhide FT).mono ?_
                          rintro e wf ⟨rfl, hbf⟩
                          have HBF := hide (below_step (unhide HBN) hbf)
                          clear hbf FT
                          have rs := (unhide HRS).below (unhide HBF)
                          obtain ⟨rl, rr0, rr1, rf0, rf1⟩ := rs
                          have hbf := hide ((unhide HNA).trans ((unhide HBF).mono (by omega)))
                          go_wp2
                          refine bodyPost_ret (v := .tuple #[.agg #[.int .i64 v1, .int .i64 v2], .int .i64 v3]) (by simp [results, Tryz.results5, go_sem, rr0, rr1]) rfl ?_
                          rw [unhide HV]
                          exact ⟨rfl, ((unhide hbf).setCell (by simp) _).setCell (by simp) _⟩
              · rw [decide_eq_false h46] at hq4
                have HP : Hid (P = (0, 0, 2)) := hide (unhide FORM (by
                  have r := unhide HRUN
                  have e := drop_at s 1 (n - 1) (by omega)
                  have e2 : 1 + (n - 1) = n := by omega
                  simp only [e2] at e
                  exact pOk_other r.dig e (r.stop _ e) h46))
                clear h46
                have rs := (unhide HRS).below (unhide HB)
                obtain ⟨rl, rr0, rr1, rf0, rf1⟩ := rs
                have hbf := hide ((unhide HNA).trans ((unhide HB).mono (by omega)))
                go_wp2
                refine bodyPost_ret (v := .tuple #[.agg #[.int .i64 0, .int .i64 0], .int .i64 2]) (by simp [results, Tryz.results5, go_sem, rr0, rr1]) rfl ?_
                rw [unhide HP]
                exact ⟨rfl, ((unhide hbf).setCell (by simp) _).setCell (by simp) _⟩
            · have hn' : ¬ (n : Int) < (s.size : Int) := by omega
              have HDP : Hid ((0 : Int) < 1) := hide (by omega)
              have HV200 : Hid (vL A < 10 ^ 200) := hide (Nat.lt_of_lt_of_le lv (Dm.p10_le (by omega)))
              have HEQ : Hid (((vL A : Nat) : Int) * (10 : Int) ^ 0 = ((vL A : Nat) : Int) * 1) := hide (by rw [Int.pow_zero])
              have HPG : Hid (P = (nC true (vL A) (-((0 : Nat) : Int)), nX true (vL A) (-((0 : Nat) : Int)), nR true (vL A) (-((0 : Nat) : Int)))) := hide (by
                have r := unhide HRUN
                have hz : s.data.toList.length = s.size := rfl
                have hlen : (s.data.toList.drop 1).length = s.size - 1 := by rw [List.length_drop, hz]
                obtain ⟨g1, g2⟩ := run_whole r (by omega) (by rw [unhide HA]; exact unhide HLEAD) (by omega)
                have g3 := unhide GOOD _ _ _ g1 g2
                rw [List.append_nil] at g3
                have g4 : A = (s.data.toList.drop 1) := by rw [← unhide HA, show n - 1 = (s.data.toList.drop 1).length by omega, List.take_length]
                rw [g4]
                exact g3)
              have L1 : Ln 1 ≤ 2 := Ln_small (by decide)
              have NG := hide (rneg_any (w.heap.size + 1) (w.heap.size + 1) (((vL A : Nat) : Int)) (1) wz (unhide HR).place (unhide HR) (by have := unhide HDP; omega) (by omega) (by omega))
              go_wp2_with fail
              refine (unhide NG).mono ?_
              rintro e wn ⟨rfl, rn, kn⟩
              have HRN := hide rn
              have HBN := hide ((unhide HB).trans (kn.below (by omega) (unhide HB).size))
              clear rn kn NG
              obtain ⟨⟨v1, v2, v3⟩, hv⟩ : ∃ F, fitT (-(((vL A : Nat) : Int))) (1) = F := ⟨_, rfl⟩
              have FT : Hid (Calls Tryz.prog 18 #[.pointer (some ⟨(w.heap.size + 1), 0, none⟩)] wn fun e w' => e = .returned (.tuple #[.agg #[.int .i64 v1, .int .i64 v2], .int .i64 v3]) ∧ Below wn.heap.size wn w') := hide ((fit_any (w.heap.size + 1) (-(((vL A : Nat) : Int))) (1) wn (unhide HRN) (unhide HDP) (by rw [Ln_neg]; omega) (by omega)).mono (by
                rintro e w' ⟨rfl, h⟩
                exact ⟨by rw [hv]; rfl, h⟩))
              have HV : Hid (P = (v1, v2, v3)) := hide (by
                rw [← hv]
                have := digits_told true (unhide HDP) (unhide HV200) (unhide HEQ)
                simp only [if_true] at this
                rw [this]
                exact unhide HPG)
              clear hv
              go_wp2_with fail
              refine (unhide FT).mono ?_
              rintro e wf ⟨rfl, hbf⟩
              have HBF := hide (below_step (unhide HBN) hbf)
              clear hbf FT
              have rs := (unhide HRS).below (unhide HBF)
              obtain ⟨rl, rr0, rr1, rf0, rf1⟩ := rs
              have hbf := hide ((unhide HNA).trans ((unhide HBF).mono (by omega)))
              go_wp2
              refine bodyPost_ret (v := .tuple #[.agg #[.int .i64 v1, .int .i64 v2], .int .i64 v3]) (by simp [results, Tryz.results5, go_sem, rr0, rr1]) rfl ?_
              rw [unhide HV]
              exact ⟨rfl, ((unhide hbf).setCell (by simp) _).setCell (by simp) _⟩

theorem rparse_any (s : ByteArray) (w : World) : Calls Tryz.prog 5 #[.string s] w fun e w' => e = pRet (parseF s.data.toList) ∧ Below w.heap.size w w' := by
  by_cases h : 100 < s.size
  · have e : parseF s.data.toList = (0, 0, 4) := by
      unfold parseF
      rw [if_pos (show 100 < s.data.toList.length from h)]
    rw [e]
    exact rparse_much s w h
  · cases hB : pB s.data.toList
    · exact rparse_pos s w (by omega) hB
    · exact rparse_neg s w (by omega) hB
end Go.Proofs.YtibkemolmpcdcaaGreatDoor

/- Walks: the document's answer: Print. -/
namespace Go.Proofs.YtibkemolmpcdcaaGreatDoor
open Go.RowKit

set_option maxHeartbeats 400000 in
theorem rwrong2_any (c x : Int) (w : World) :
    Calls Tryz.prog 24 #[.agg #[.int .i64 c, .int .i64 x]] w fun e w' => e = .returned (.int .i64 (Dm.wrongN c x)) ∧ Below w.heap.size w w' := by
  go_enter Tryz.func24, Tryz.ntmps24
  go_wp2
  all_goals
    go_ret
    refine ⟨ret_int ?_, (Below.refl _ _).alloc (Nat.le_refl _) _⟩
    unfold Dm.wrongN
    (repeat' split) <;> first | rfl | (exfalso; omega) | (simp_all; done)

set_option maxHeartbeats 2000000 in
theorem rprint_no (c x : Int) (w : World) (h : (Dm.wrongN c x != 0) = true) :
    Calls Tryz.prog 7 #[.agg #[.int .i64 c, .int .i64 x]] w fun e w' => e = .returned (.tuple #[.string ⟨#[]⟩, .int .i64 (Dm.wrongN c x)]) ∧ Below w.heap.size w w' := by
  go_enter Tryz.func7, Tryz.ntmps7
  go_wp2_with fail
  refine (rwrong2_any c x _).mono ?_
  rintro e w1 ⟨rfl, hb⟩
  obtain ⟨t0, t1, hz, hw⟩ := two_cells hb
  clear hb
  go_wp2
  refine bodyPost_ret (v := .tuple #[.string ⟨#[]⟩, .int .i64 (Dm.wrongN c x)]) (by simp [results, Tryz.results7, go_sem]) rfl ?_
  exact ⟨rfl, hw⟩

/-- digits so far, and what is left -/
def Dg (n0 m : Nat) (T : List UInt8) : Prop := (T = [] ∧ m = n0) ∨ (T ≠ [] ∧ (m = 0 → T = Lib.decDigits n0) ∧ (0 < m → Lib.decDigits m ++ T = Lib.decDigits n0))
theorem dec_low {m : Nat} (h : m < 10) : Lib.decDigits m = [UInt8.ofNat (48 + m)] := by rw [Lib.decDigits]; simp [h]
theorem dec_high {m : Nat} (h : ¬ m < 10) : Lib.decDigits m = Lib.decDigits (m / 10) ++ [UInt8.ofNat (48 + m % 10)] := by rw [Lib.decDigits]; simp [h]
theorem Dg.step {n0 m : Nat} {T : List UInt8} (h : Dg n0 m T) (hc : 0 < m ∨ T = []) : Dg n0 (m / 10) (UInt8.ofNat (48 + m % 10) :: T) := by
  right
  refine ⟨by simp, fun h0 => ?_, fun h0 => ?_⟩
  · have lt : m < 10 := by omega
    rcases h with ⟨rfl, rfl⟩ | ⟨a, b, c⟩
    · rw [dec_low lt, Nat.mod_eq_of_lt lt]
    · have hm : 0 < m := hc.resolve_right a
      have := c hm
      rw [dec_low lt] at this
      rw [← this, Nat.mod_eq_of_lt lt]
      rfl
  · have ge : ¬ m < 10 := by omega
    rcases h with ⟨rfl, rfl⟩ | ⟨a, b, c⟩
    · rw [dec_high ge]
    · have := c (by omega)
      rw [dec_high ge] at this
      rw [← this]
      simp

theorem empty_size (T : ByteArray) : T.toList.isEmpty = (decide ((0 : Nat) < 0) || decide (T.size = 0)) := by
  have e1 : T.toList.isEmpty = T.data.toList.isEmpty := by rw [← beq_nil]; cases T.toList <;> rfl
  rw [e1, show decide ((0 : Nat) < 0) = false from rfl, Bool.false_or]
  have e2 : T.data.toList.length = T.size := rfl
  rw [← e2]
  cases T.data.toList with
  | nil => rfl
  | cons a l => simp
theorem enc_dg (m : Nat) : (Utf8.encode (48 + (m : Int) % 10)).data.toList = [UInt8.ofNat (48 + m % 10)] := by
  have h : (48 + (m : Int) % 10) = ((48 + m % 10 : Nat) : Int) := by omega
  rw [h]
  have lt : m % 10 < 10 := Nat.mod_lt _ (by decide)
  generalize m % 10 = d at *
  have : d = 0 ∨ d = 1 ∨ d = 2 ∨ d = 3 ∨ d = 4 ∨ d = 5 ∨ d = 6 ∨ d = 7 ∨ d = 8 ∨ d = 9 := by omega
  rcases this with rfl | rfl | rfl | rfl | rfl | rfl | rfl | rfl | rfl | rfl <;> decide +kernel

set_option maxRecDepth 100000 in
set_option maxHeartbeats 4000000 in
theorem rprint_ok (c x : Int) (w : World) (h : Dm.wrongN c x = 0) :
    Calls Tryz.prog 7 #[.agg #[.int .i64 c, .int .i64 x]] w fun e w' => e = .returned (.tuple #[.string ⟨(printL c x).toArray⟩, .int .i64 0]) ∧ Below w.heap.size w w' := by
  obtain ⟨p1, p2, p3, p4, _⟩ := Dm.wrong_ok h
  have g : (Dm.wrongN c x != 0) = false := by rw [h]; rfl
  have hn : c.natAbs < 1000000000000000000 := by omega
  clear h
  go_enter Tryz.func7, Tryz.ntmps7
  go_wp2_with fail
  refine (rwrong2_any c x _).mono ?_
  rintro e w1 ⟨rfl, hb⟩
  obtain ⟨t0, t1, hz, hw⟩ := two_cells hb
  clear hb
  have wr1 : IntKind.i64.wrap (-x) = -x := by rw [IntKind.wrap_i64]; omega
  have wr2 : IntKind.i64.wrap (-c) = -c := by rw [IntKind.wrap_i64]; omega
  obtain ⟨pl, hpl⟩ : ∃ pl : Nat, pl = (-x).toNat := ⟨_, rfl⟩
  have HPL := hide hpl
  obtain ⟨n0, hn0⟩ : ∃ n0 : Nat, n0 = c.natAbs := ⟨_, rfl⟩
  have HN0 := hide hn0
  go_upto_if 17 with fail
  go_cut [5] from 15 (fun v wc => v = .int .i64 (pl : Int) ∧ wc = w1)
  case first =>
    by_cases hx : x < 0
    · have e : Hid (-x = (pl : Int)) := hide (by omega)
      clear hpl hn0
      go_wp2_with fail
      go_meet
      case rel => exact ⟨by rw [unhide e], rfl⟩
    · have e : Hid ((pl : Int) = 0) := hide (by omega)
      clear hpl hn0
      go_wp2_with fail
      go_meet
      case rel => exact ⟨by rw [unhide e], rfl⟩
  case rest =>
  obtain ⟨rfl, rfl⟩ := hcut
  go_upto_if 24 with fail
  go_cut [6] from 23 (fun v wx => v = .int .i64 (n0 : Int) ∧ wx = wc)
  case first =>
    by_cases hx : c < 0
    · have e : Hid (-c = (n0 : Int)) := hide (by omega)
      clear hpl hn0
      go_wp2_with fail
      go_meet
      case rel => exact ⟨by rw [unhide e], rfl⟩
    · have e : Hid (c = (n0 : Int)) := hide (by omega)
      clear hpl hn0
      go_wp2_with fail
      go_meet
      case rel => exact ⟨by rw [unhide e], rfl⟩
  case rest =>
  obtain ⟨rfl, rfl⟩ := hcut
  clear hpl hn0
  have hn : n0 < 10 ^ 18 := by have := unhide HN0; omega
  go_wp2_with fail
  go_loopg [6, 7] (n0 + 1) (fun gk nv sv wr => ∃ (m : Nat) (T : ByteArray), nv = .int .i64 (m : Int) ∧ sv = .string T ∧ wr = wc ∧ T.size ≤ 18 ∧ Hid (m < 10 ^ (18 - T.size)) ∧ gk = m + (if T.size = 0 then 1 else 0) ∧ Hid (Dg n0 m T.data.toList))
  case atStart => exact ⟨n0, ⟨#[]⟩, rfl, rfl, rfl, Nat.zero_le _, hide hn, rfl, hide (.inl ⟨rfl, rfl⟩)⟩
  case round =>
    obtain ⟨m, T, rfl, rfl, rfl, hT, HM, hgk, HD⟩ := hrel
    have hm18 : m < 1000000000000000000 := Nat.lt_of_lt_of_le (unhide HM) (Nat.le_trans (Nat.pow_le_pow_right (by decide) (show 18 - T.size ≤ 18 by omega)) (by decide))
    go_upto_region 10 with fail
    go_cut [32] from 27 to 41 (fun v wx => v = .bool (decide (0 < m) || decide (T.size = 0)) ∧ wx = wr)
    case first =>
      by_cases h0 : (0 : Int) < (m : Int)
      · have HE : Hid ((decide (0 < m) || decide (T.size = 0)) = true) := hide (by rw [decide_eq_true (by omega)]; rfl)
        go_wp2_with fail
        go_meet
        case rel => exact ⟨by rw [unhide HE], rfl⟩
      · obtain rfl : m = 0 := by omega
        have HE : Hid (T.toList.isEmpty = (decide (0 < 0) || decide (T.size = 0))) := hide (empty_size T)
        clear h0
        go_wp2_with fail
        go_meet
        case rel => exact ⟨by rw [← unhide HE], rfl⟩
    case rest =>
      obtain ⟨rfl, rfl⟩ := hcut
      by_cases hc : (decide (0 < m) || decide (T.size = 0)) = true
      · rw [hc]
        have hor : 0 < m ∨ T.size = 0 := by simpa using hc
        obtain ⟨E1, hE1⟩ : ∃ E1, Utf8.encode (48 + (m : Int) % 10) = E1 := ⟨_, rfl⟩
        have hl : E1.data.toList = [UInt8.ofNat (48 + m % 10)] := by rw [← hE1]; exact enc_dg m
        have hz1 : E1.size = 1 := by
          have : E1.data.toList.length = E1.size := rfl
          rw [hl] at this; simpa using this.symm
        have hT17 : T.size ≤ 17 := by
          rcases hor with g | g
          · rcases Nat.lt_or_ge 17 T.size with k | k
            · have := unhide HM
              rw [show 18 - T.size = 0 by omega] at this
              omega
            · exact k
          · omega
        have hsz : E1.size + T.size ≤ 200 := by omega
        have HD2 := hide ((unhide HD).step (hor.imp id fun g => List.length_eq_zero_iff.1 g))
        have HL := hide hl
        have HM2 : Hid (m / 10 < 10 ^ (18 - (T.size + 1))) := hide (by
          have := unhide HM
          rw [show 18 - T.size = (18 - (T.size + 1)) + 1 by omega, Nat.pow_succ] at this
          omega)
        clear hc hl
        go_wp2
        go_roundg (m / 10)
        case measure =>
          rw [hgk]
          rcases hor with g | g
          · split <;> omega
          · rw [if_pos g]; omega
        case rel =>
          have sz : (E1 ++ T).size = T.size + 1 := by
            have : (E1 ++ T).data.toList.length = (E1 ++ T).size := rfl
            rw [← this, app_data, List.length_append, unhide HL]
            have : T.data.toList.length = T.size := rfl
            simp; omega
          refine ⟨m / 10, E1 ++ T, by first | rfl | go_num, rfl, rfl, by omega, by rw [sz]; exact HM2, by rw [sz, if_neg (by omega)]; rfl, hide ?_⟩
          rw [app_data, unhide HL]
          exact unhide HD2
      · have hc2 : (decide (0 < m) || decide (T.size = 0)) = false := by simpa using hc
        rw [hc2]
        have hor : ¬ (0 < m ∨ T.size = 0) := fun k => hc (by simpa using k)
        have hm0 : m = 0 := by omega
        have hTs : T.size ≠ 0 := by omega
        clear hor
        have HT18 := hide hT
        have HT0 : Hid (T.data.toList = Lib.decDigits n0) := hide (by
          rcases unhide HD with ⟨a, _⟩ | ⟨_, b, _⟩
          · exact absurd (show T.size = 0 by have : T.data.toList.length = T.size := rfl; rw [a] at this; simpa using this.symm) hTs
          · exact b hm0)
        obtain ⟨xn, hxn⟩ : ∃ xn : Nat, xn = x.toNat := ⟨_, rfl⟩
        have HXN := hide hxn
        have hxn40 : xn ≤ 40 := by omega
        clear hc hc2 HD HM hgk hxn
        go_wp2_with fail
        go_loopw [7, 8] (fun sv kv wr => ∃ (k : Nat) (T : ByteArray), sv = .string T ∧ kv = .int .i64 (k : Int) ∧ Hid (wc = wr) ∧ k ≤ xn ∧ T.size ≤ 18 + k ∧ Hid (T.data.toList = Lib.decDigits n0 ++ List.replicate k 48)) (fun _ kv _ => (100 - intOf kv).toNat)
        case atStart => exact ⟨0, T, rfl, rfl, hide rfl, Nat.zero_le _, by have := unhide HT18; omega, hide (by rw [unhide HT0]; simp)⟩
        case round =>
          obtain ⟨k, T, rfl, rfl, HWR, hk, hTk, HT⟩ := hrel
          have eW := unhide HWR
          subst eW
          clear HWR
          by_cases hkx : (k : Int) < x
          · have hsz : T.size + (⟨#[48]⟩ : ByteArray).size ≤ 200 := by
              have : (⟨#[48]⟩ : ByteArray).size = 1 := rfl
              omega
            go_wp2
            refine ⟨⟨k + 1, T ++ ⟨#[48]⟩, rfl, by first | rfl | go_num, (by first | exact hide rfl | exact hide trivial), by have := unhide HXN; omega, ?_, hide ?_⟩, ?_⟩
            · have e1 : (T ++ ⟨#[48]⟩).data.toList.length = (T ++ ⟨#[48]⟩).size := rfl
              rw [← e1, app_data, List.length_append]
              have e2 : T.data.toList.length = T.size := rfl
              simp; omega
            · rw [app_data, unhide HT, List.append_assoc, List.replicate_succ']
            · simp [intOf]; omega
          · have hke : k = xn := by have := unhide HXN; omega
            obtain ⟨L0, hL0⟩ : ∃ L0, L0 = Lib.decDigits n0 ++ List.replicate xn 48 := ⟨_, rfl⟩
            have HL0 := hide hL0
            have HTL : Hid (T.data.toList = L0) := hide (by rw [hL0, ← hke]; exact unhide HT)
            have hT58 : T.size ≤ 58 := by omega
            have hpl40 : pl ≤ 40 := by have := unhide HPL; omega
            clear hL0 hke HT hTk
            go_wp2_with fail
            go_loopg [7] (pl + 1 - T.size) (fun gk sv wr => ∃ (j : Nat) (T : ByteArray), sv = .string T ∧ Hid (wc = wr) ∧ T.size ≤ 100 ∧ gk = pl + 1 - T.size ∧ Hid (T.data.toList = List.replicate j 48 ++ L0 ∧ (j = 0 ∨ T.size ≤ pl + 1)))
            case atStart => exact ⟨0, T, rfl, hide rfl, by omega, rfl, hide ⟨by rw [unhide HTL]; rfl, .inl rfl⟩⟩
            case round =>
              obtain ⟨j, T, rfl, HWR, hT100, HG, HTJ⟩ := hrel
              have eW := unhide HWR
              subst eW
              clear HWR
              have hTl : T.data.toList.length = T.size := rfl
              have L1 : 1 ≤ L0.length := by
                rw [unhide HL0, List.length_append]
                have := (dec_props n0).2.2.1
                have : Lib.decDigits n0 ≠ [] := this
                have := List.length_pos_iff.2 this
                omega
              go_upto_region 17 with fail
              go_cut [57] from 50 to 59 (fun v wx => v = .bool (decide (0 < pl) && decide (T.size ≤ pl)) ∧ wx = wc)
              case first =>
                by_cases h0 : (0 : Int) < (pl : Int)
                · have HE : Hid ((decide (0 < pl) && decide (T.size ≤ pl)) = decide (T.size ≤ pl)) := hide (by
                    rw [decide_eq_true (show 0 < pl by omega), Bool.true_and])
                  go_wp2_with fail
                  go_meet
                  case rel => exact ⟨by rw [unhide HE], rfl⟩
                · have HE : Hid ((decide (0 < pl) && decide (T.size ≤ pl)) = false) := hide (by rw [decide_eq_false (show ¬ 0 < pl by omega)]; rfl)
                  go_wp2_with fail
                  go_meet
                  case rel => exact ⟨by rw [unhide HE], rfl⟩
              case rest =>
                obtain ⟨rfl, rfl⟩ := hcut
                by_cases hc : (decide (0 < pl) && decide (T.size ≤ pl)) = true
                · rw [hc]
                  have hand : 0 < pl ∧ T.size ≤ pl := by simpa using hc
                  have hsz : (⟨#[48]⟩ : ByteArray).size + T.size ≤ 200 := by
                    have : (⟨#[48]⟩ : ByteArray).size = 1 := rfl
                    omega
                  clear hc
                  go_wp2
                  go_roundg (pl + 1 - (T.size + 1))
                  case measure => omega
                  case rel =>
                    have sz : ((⟨#[48]⟩ : ByteArray) ++ T).size = T.size + 1 := by
                      rw [ByteArray.size_append]
                      have : (⟨#[48]⟩ : ByteArray).size = 1 := rfl
                      omega
                    refine ⟨j + 1, ⟨#[48]⟩ ++ T, rfl, (by first | exact hide rfl | exact hide trivial), by omega, by rw [sz], hide ⟨?_, .inr (by omega)⟩⟩
                    rw [app_data, (unhide HTJ).1]
                    rfl
                · have hc2 : (decide (0 < pl) && decide (T.size ≤ pl)) = false := by simpa using hc
                  rw [hc2]
                  have hnand : ¬ (0 < pl ∧ T.size ≤ pl) := fun k => hc (by simpa using k)
                  have hlen : T.size = j + L0.length := by rw [← hTl, (unhide HTJ).1, List.length_append, List.length_replicate]
                  have hj : j = (if 0 < pl then pl + 1 - L0.length else 0) := by
                    have := (unhide HTJ).2
                    split <;> omega
                  clear hc hc2
                  by_cases hp : 0 < pl
                  · rw [if_pos hp] at hj
                    have hx0 : ¬ 0 ≤ x := by have := unhide HPL; omega
                    have hxn0 : xn = 0 := by have := unhide HXN; omega
                    have eL0 : L0 = Lib.decDigits n0 := by rw [unhide HL0, hxn0]; simp
                    have hTz : T.data.toList = zL (Lib.decDigits n0) pl := by
                      rw [(unhide HTJ).1, hj, eL0]
                      unfold zL
                      rw [rep_eq]
                    obtain ⟨m9, hm9⟩ : ∃ m9 : Nat, m9 = T.size - pl := ⟨_, rfl⟩
                    have hTs2 : pl < T.size := by omega
                    have HM9 : Hid ((T.size : Int) - (pl : Int) = (m9 : Int)) := hide (by omega)
                    have hPT := pt_eq (Lib.decDigits n0) pl T hTz m9 (by rw [← hTz, hTl, hm9])
                    obtain ⟨Z, hZ⟩ : ∃ Z : ByteArray, T.extract 0 m9 ++ ⟨#[46]⟩ ++ T.extract m9 T.size = Z := ⟨_, rfl⟩
                    rw [hZ] at hPT
                    have HS : Hid (Z.data.toList = magL n0 x) := hide (by
                      rw [hPT, mk_list]
                      unfold magL
                      rw [if_neg hx0, ← unhide HPL])
                    have hZs : Z.size ≤ 100 := by
                      rw [hPT, mk_size]
                      unfold ptL
                      rw [← hTz, List.length_append, List.length_cons, List.length_take, List.length_drop, hTl]
                      have := hpl40
                      have hT41 : T.size ≤ 60 := by
                        have hd := nDigits_18 (n := n0) (by omega)
                        rw [eL0] at hlen
                        rcases (unhide HTJ).2 with k | k <;> omega
                      omega
                    have HZ := hide hZ
                    have c1' : (0 : Int) ≤ (m9 : Int) := by omega
                    have c2' : (m9 : Int) ≤ (T.size : Int) := by omega
                    have hp' : (0 : Int) < (pl : Int) := by omega
                    have c3 : m9 ≤ T.size := by omega
                    have c4 : (T.extract 0 m9).size + (⟨#[46]⟩ : ByteArray).size ≤ 200 := by
                      have : (⟨#[46]⟩ : ByteArray).size = 1 := rfl
                      rw [ByteArray.size_extract]
                      omega
                    clear hm9 hPT hZ hTz eL0 hj hnand hlen HTJ HL0 hTl
                    go_wp2_with fail
                    rw [unhide HM9]
                    go_region
                    all_goals
                      rw [unhide HZ]
                      have HL := hide (sign_eq (decide (c < 0)) (magL n0 x) Z (unhide HS))
                      have HPR : Hid (printL c x = signL (decide (c < 0)) (magL n0 x)) := hide (by rw [unhide HN0]; rfl)
                      have h45 : (⟨#[45]⟩ : ByteArray).size + (Z).size ≤ 200 := size_45 Z (by omega)
                      by_cases hc0 : c < 0
                      · have HF := hide ((unhide HL).1 (decide_eq_true hc0))
                        go_wp2
                        refine bodyPost_ret (v := .tuple #[.string (⟨#[45]⟩ ++ Z), .int .i64 0]) (by simp [results, Tryz.results7, go_sem]) rfl ?_
                        rw [unhide HPR, ← unhide HF]
                        exact ⟨rfl, hw.drew⟩
                      · have HF := hide ((unhide HL).2 (decide_eq_false hc0))
                        go_wp2
                        refine bodyPost_ret (v := .tuple #[.string Z, .int .i64 0]) (by simp [results, Tryz.results7, go_sem]) rfl ?_
                        rw [unhide HPR, ← unhide HF]
                        exact ⟨rfl, hw.drew⟩
                  · have hp0 : pl = 0 := by omega
                    rw [if_neg hp] at hj
                    have hx0 : 0 ≤ x := by have := unhide HPL; omega
                    have HS : Hid (T.data.toList = magL n0 x) := hide (by
                      rw [(unhide HTJ).1, hj, unhide HL0]
                      unfold magL
                      rw [if_pos hx0, ← unhide HXN, rep_eq]
                      rfl)
                    have hp' : ¬ (0 : Int) < (pl : Int) := by omega
                    clear hp0 hj hnand hlen HTJ HL0 hTl
                    have HL := hide (sign_eq (decide (c < 0)) (magL n0 x) T (unhide HS))
                    have HPR : Hid (printL c x = signL (decide (c < 0)) (magL n0 x)) := hide (by rw [unhide HN0]; rfl)
                    have h45 : (⟨#[45]⟩ : ByteArray).size + (T).size ≤ 200 := size_45 T (by omega)
                    by_cases hc0 : c < 0
                    · have HF := hide ((unhide HL).1 (decide_eq_true hc0))
                      go_wp2
                      refine bodyPost_ret (v := .tuple #[.string (⟨#[45]⟩ ++ T), .int .i64 0]) (by simp [results, Tryz.results7, go_sem]) rfl ?_
                      rw [unhide HPR, ← unhide HF]
                      exact ⟨rfl, hw⟩
                    · have HF := hide ((unhide HL).2 (decide_eq_false hc0))
                      go_wp2
                      refine bodyPost_ret (v := .tuple #[.string T, .int .i64 0]) (by simp [results, Tryz.results7, go_sem]) rfl ?_
                      rw [unhide HPR, ← unhide HF]
                      exact ⟨rfl, hw⟩
end Go.Proofs.YtibkemolmpcdcaaGreatDoor
