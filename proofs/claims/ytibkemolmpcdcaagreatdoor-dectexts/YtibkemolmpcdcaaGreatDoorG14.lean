/- Walks: the document's answer: Parse (written by gen_bt1.py). -/
import Derived.Test.YtibkemolmpcdcaaGreatDoorG13
import Derived.Test.YtibkemolmpcdcaaGreatDoorG12
import Derived.Test.YtibkemolmpcdcaaGreatDoorG11
import Derived.Deep.Cut
namespace Go.Proofs.YtibkemolmpcdcaaGreatDoor
open Go.RowKit

theorem parseF_form {l : List UInt8} (hl : l.length ≤ 100) (h : pOk (cut1 (pU l) 46).1 (cut1 (pU l) 46).2.1 (cut1 (pU l) 46).2.2 = false) : parseF l = (0, 0, 2) := by
  unfold parseF
  rw [if_neg (by omega), if_neg (by rw [h]; simp)]
theorem parseF_ok {l a h : List UInt8} {p : Bool} (hl : l.length ≤ 100) (hc : cut1 (pU l) 46 = (a, h, p)) (ok : pOk a h p = true) : parseF l = (nC (pB l) (vL (a ++ h)) (-(h.length : Int)), nX (pB l) (vL (a ++ h)) (-(h.length : Int)), nR (pB l) (vL (a ++ h)) (-(h.length : Int))) := by
  unfold parseF
  rw [if_neg (by omega), hc]
  simp only
  rw [if_pos ok]
/-- is there a digit at that place? -/
def dgAt (s : ByteArray) (n : Nat) : Bool := if h : n < s.size then isDg s[n] else false
theorem dgAt_in {s : ByteArray} {n : Nat} (h : n < s.size) : dgAt s n = isDg s[n] := by unfold dgAt; rw [dif_pos h]
theorem dgAt_out {s : ByteArray} {n : Nat} (h : ¬ n < s.size) : dgAt s n = false := by unfold dgAt; rw [dif_neg h]
theorem drop_at (s : ByteArray) (b k : Nat) (h : b + k < s.size) : (s.data.toList.drop b)[k]? = some s[b + k] := by
  rw [List.getElem?_drop]
  exact toList_at s (b + k) h
theorem run_of {s : ByteArray} {b n : Nat} (hb : b ≤ n) (hn : n ≤ s.size) (hd : ∀ j (h : j < s.size), b ≤ j → j < n → isDg s[j] = true) (hs : dgAt s n = false) : Run (s.data.toList.drop b) (n - b) := by
  have len : (s.data.toList.drop b).length = s.size - b := by rw [List.length_drop]; rfl
  refine ⟨by omega, ?_, fun c hc => ?_⟩
  · rw [List.all_eq_true]
    intro x hx
    obtain ⟨j, hj, rfl⟩ := List.getElem_of_mem hx
    rw [List.length_take] at hj
    have e := drop_at s b j (by omega)
    have g := hd (b + j) (by omega) (by omega) (by omega)
    rw [List.getElem_take]
    have : (s.data.toList.drop b)[j]'(by omega) = s[b + j]'(by omega) := (List.getElem?_eq_some_iff.1 e).2
    rw [this]
    exact g
  · have lt : n - b < (s.data.toList.drop b).length := (List.getElem?_eq_some_iff.1 hc).1
    have e := drop_at s b (n - b) (by omega)
    rw [hc] at e
    have hn2 : n < s.size := by omega
    rw [dgAt_in hn2] at hs
    have q : c = s[b + (n - b)]'(by omega) := by injection e
    have : b + (n - b) = n := by omega
    subst q
    simpa only [this] using hs
theorem vL_step {s : ByteArray} {b n : Nat} (hb : b ≤ n) (hn : n < s.size) : vL ((s.data.toList.drop b).take (n + 1 - b)) = vL ((s.data.toList.drop b).take (n - b)) * 10 + (s[n].toNat - 48) := by
  have e := drop_at s b (n - b) (by omega)
  have h2 : n + 1 - b = (n - b) + 1 := by omega
  have h3 : (s.data.toList.drop b)[n - b]? = some s[n] := by
    rw [e]
    have : b + (n - b) = n := by omega
    simp only [this]
  rw [h2, List.take_add_one, h3, vL_app]
  simp [vL_one]
theorem vL_lt {l : List UInt8} (h : l.all isDg = true) : vL l < 10 ^ l.length := Dm.val_lt (dOf_lt h) l.length
theorem Ln_lt10 {v k : Nat} (h : v < 10 ^ k) : Ln (v : Int) ≤ k + 1 := by
  refine Nat.le_trans (Ln_mono (y := (10 : Int) ^ k) ?_) (Ln_ten k)
  rw [Int.natAbs_pow]
  have : (10 : Int).natAbs ^ k = 10 ^ k := rfl
  rw [this, Int.natAbs_natCast]
  omega
theorem Ln_ten9 (e : Nat) : Ln ((10 : Int) ^ e) ≤ e / 9 + 1 := by
  apply Ln_le
  rw [Int.natAbs_pow]
  have h0 : (10 : Int).natAbs ^ e = 10 ^ e := rfl
  rw [h0]
  have h1 : e = 9 * (e / 9) + e % 9 := (Nat.div_add_mod e 9).symm
  have h2 : 10 ^ e = (10 ^ 9) ^ (e / 9) * 10 ^ (e % 9) := by rw [← Nat.pow_mul, ← Nat.pow_add, ← h1]
  have h3 : (10 ^ 9) ^ (e / 9) ≤ 4294967296 ^ (e / 9) := Nat.pow_le_pow_left (by decide) _
  have h4 : 10 ^ (e % 9) ≤ 10 ^ 8 := Nat.pow_le_pow_right (by decide) (by omega)
  have h5 : (10 : Nat) ^ 8 < 4294967296 := by decide
  rw [h2, Nat.pow_succ]
  have h6 : (10 ^ 9) ^ (e / 9) * 10 ^ (e % 9) ≤ 4294967296 ^ (e / 9) * 10 ^ 8 := Nat.mul_le_mul h3 h4
  have h7 : 4294967296 ^ (e / 9) * 10 ^ 8 < 4294967296 ^ (e / 9) * 4294967296 := Nat.mul_lt_mul_of_pos_left h5 (Nat.pow_pos (by decide))
  exact Nat.lt_of_le_of_lt h6 h7
theorem lead_at {s : ByteArray} {b n : Nat} (hb : b < n) (hn : n ≤ s.size) : lead0 ((s.data.toList.drop b).take (n - b)) = (decide (1 < n - b) && decide (s[b]'(by omega) = 48)) := by
  have e := drop_at s b 0 (by omega)
  have hz : s.data.toList.length = s.size := rfl
  have h1 : ((s.data.toList.drop b).take (n - b)).length = n - b := by rw [List.length_take, List.length_drop]; omega
  have h2 : ((s.data.toList.drop b).take (n - b)).head? = some (s[b]'(by omega)) := by
    rw [List.head?_eq_getElem?, List.getElem?_take_of_lt (by omega)]
    exact e
  unfold lead0
  rw [h1, h2]
  congr 1
  simp
theorem newRat_at (a b : Int) (w : World) (k : Nat) (hk : w.heap.size = k) (a1 : -9223372036854775808 ≤ a) (a2 : a ≤ 9223372036854775807) (b1 : 0 < b) (b2 : b ≤ 9223372036854775807) :
    Calls Tryz.prog 14 #[.int .i64 a, .int .i64 b] w fun e w' => e = .returned (.pointer (some ⟨k, 0, none⟩)) ∧ RV w' k a b ∧ Below w.heap.size w w' := by
  subst hk
  exact newRat_any a b w a1 a2 b1 b2
theorem byte_eq {c : UInt8} {k : Nat} (hk : k < 256) : (((c.toNat : Nat) : Int) == (k : Int)) = decide (c = UInt8.ofNat k) := by
  by_cases h : c = UInt8.ofNat k
  · rw [decide_eq_true h, beq_iff_eq, h]
    simp
    omega
  · rw [decide_eq_false h, beq_eq_false_iff_ne]
    intro e
    exact h (UInt8.toNat_inj.1 (by simp; omega))
theorem byte48 (c : UInt8) : (((c.toNat : Nat) : Int) == 48) = decide (c = 48) := byte_eq (k := 48) (by omega)
theorem byte46 (c : UInt8) : (((c.toNat : Nat) : Int) == 46) = decide (c = 46) := byte_eq (k := 46) (by omega)
theorem RV.zero (w : World) : RV (w.alloc (.cells #[.bool false, .slice none 0 0, .bool false, .slice none 0 0] 45)) w.heap.size 0 1 := by
  have z := ZA.newR w
  have z0 := z.up (show 0 ≤ 2 by omega)
  have hn : Bg.wd (0 : Int).natAbs = [] := by simp [Bg.wd_zero]
  refine ⟨0, 1, ⟨⟨z0, by simp [go_sem], .slice none 0 0, by simp [go_sem], by rw [hn]; exact WS.nil _⟩, .inr ⟨⟨z, by simp [go_sem], .slice none 0 0, by simp [go_sem], by rw [hn]; exact WS.nil _⟩, rfl⟩, by omega⟩, by omega, by decide⟩

set_option maxHeartbeats 400000 in
theorem rparse_much (s : ByteArray) (w : World) (h : 100 < s.size) :
    Calls Tryz.prog 5 #[.string s] w fun e w' => e = pRet (0, 0, 4) ∧ Below w.heap.size w w' := by
  go_enter Tryz.func5, Tryz.ntmps5
  go_wp2
  exact bodyPost_ret (v := .tuple #[.agg #[.int .i64 0, .int .i64 0], .int .i64 4]) (by simp [results, Tryz.results5, go_sem]) rfl ⟨rfl, (Below.refl _ _).alloc (Nat.le_refl _) _⟩

set_option maxRecDepth 100000 in
set_option maxHeartbeats 8000000 in
theorem rparse_pos (s : ByteArray) (w : World) (hs : s.size ≤ 100) (hB : pB s.data.toList = false) :
    Calls Tryz.prog 5 #[.string s] w fun e w' => e = pRet (parseF s.data.toList) ∧ Below w.heap.size w w' := by
  have hs' : ¬ 100 < (s.size : Int) := by omega
  have hll : s.data.toList.length ≤ 100 := hs
  obtain ⟨P, hP⟩ : ∃ P, parseF s.data.toList = P := ⟨_, rfl⟩
  have hU : pU s.data.toList = s.data.toList.drop 0 ∧ 0 ≤ s.size := by
    have := (sign_cut s.data.toList).2 hB
    exact ⟨by rw [this.1, List.drop_zero], Nat.zero_le _⟩
  have c45 : ∀ h : 0 < s.size, s[0] ≠ 45 := fun h e => by
    refine ((sign_cut s.data.toList).2 hB).2 ?_
    rw [List.head?_eq_getElem?, toList_at s 0 h, e]
  have FORM : Hid (pOk (cut1 (s.data.toList.drop 0) 46).1 (cut1 (s.data.toList.drop 0) 46).2.1 (cut1 (s.data.toList.drop 0) 46).2.2 = false → P = (0, 0, 2)) := hide fun h => by
    rw [← hP]
    exact parseF_form hll (by rw [hU.1]; exact h)
  have GOOD : Hid (∀ a h p, cut1 (s.data.toList.drop 0) 46 = (a, h, p) → pOk a h p = true → P = (nC false (vL (a ++ h)) (-(h.length : Int)), nX false (vL (a ++ h)) (-(h.length : Int)), nR false (vL (a ++ h)) (-(h.length : Int)))) := hide fun a h p e1 e2 => by
    rw [← hP, ← hB]
    exact parseF_ok hll (by rw [hU.1]; exact e1) e2
  rw [hP]
  have hbs := hU.2
  clear hP hU hB hll
  obtain ⟨wA, hwA⟩ : ∃ wA, wA = w.alloc (.cells #[.int .i64 0, .int .i64 0] 23) := ⟨_, rfl⟩
  have HNA : Hid (Below w.heap.size w wA) := hide (by rw [hwA]; exact below_new _ _)
  have sA : wA.heap.size = w.heap.size + 1 := by rw [hwA]; simp
  have HRS : Hid (C2 wA w.heap.size 0 0) := hide (by rw [hwA]; exact C2.new w 0 0)
  go_enter Tryz.func5, Tryz.ntmps5
  go_upto_region 4 with fail
  go_cut [5] from 14 (fun v wx => v = .bool false ∧ wx = w.alloc (.cells #[.int .i64 0, .int .i64 0] 23))
  case first =>
    by_cases h0 : (0 : Int) < (s.size : Int)
    · have h0' : 0 < s.size := by omega
      have n1 : (((s[0].toNat : Nat) : Int) == 45) = false := by
        rw [beq_eq_false_iff_ne]
        intro e
        exact c45 h0' (UInt8.toNat_inj.1 (by have : s[0].toNat = 45 := by omega
                                             rw [this]; rfl))
      clear c45
      go_wp2_with fail
      go_meet
      case rel => exact ⟨rfl, rfl⟩
    · clear c45
      go_wp2_with fail
      go_meet
      case rel => exact ⟨rfl, rfl⟩
  case rest =>
  obtain ⟨rfl, rfl⟩ := hcut
  clear c45
  obtain ⟨wR, hwR⟩ : ∃ wR, wR = ((w.alloc (.cells #[.int .i64 0, .int .i64 0] 23)).alloc (.cells #[.bool false, .slice none 0 0, .bool false, .slice none 0 0] 45)) := ⟨_, rfl⟩
  have HR0 : Hid (RV wR (w.heap.size + 1) 0 1) := hide (by
    rw [hwR]
    have := RV.zero (w.alloc (.cells #[.int .i64 0, .int .i64 0] 23))
    rwa [show (w.alloc (.cells #[.int .i64 0, .int .i64 0] 23)).heap.size = w.heap.size + 1 by simp] at this)
  have HB0 : Hid (Below wA.heap.size wA wR) := hide (by rw [hwR, hwA]; exact below_new _ _)
  go_wp2_with fail
  rw [← hwR]
  go_loopw [4] (fun i wr => ∃ n : Nat, 0 ≤ n ∧ n ≤ s.size ∧ i = .int .i64 (n : Int) ∧ Hid (∀ j (h : j < s.size), 0 ≤ j → j < n → isDg s[j] = true) ∧ Hid (RV wr (w.heap.size + 1) ((vL ((s.data.toList.drop 0).take (n - 0)) : Nat) : Int) 1) ∧ Hid (Below wA.heap.size wA wr)) (fun i _ => s.size - (intOf i).toNat)
  case atStart => exact ⟨0, Nat.le_refl _, hbs, rfl, hide (fun j _ h1 h2 => absurd h2 (by omega)), hide (by simp only [Nat.sub_self, List.take_zero]; exact unhide HR0), HB0⟩
  case round =>
    obtain ⟨n, hnb, hns, rfl, HDG, HR, HB⟩ := hrel
    clear HR0 HB0 hwA hwR
    have sr := (unhide HB).size
    have lv : vL ((s.data.toList.drop 0).take (n - 0)) < 10 ^ 100 := by
      have ha : ((s.data.toList.drop 0).take (n - 0)).all isDg = true := by
        rw [List.all_eq_true]
        intro y hy
        obtain ⟨j, hj, rfl⟩ := List.getElem_of_mem hy
        rw [List.length_take, List.length_drop] at hj
        have hz : s.data.toList.length = s.size := rfl
        have e := drop_at s 0 j (by omega)
        rw [List.getElem_take]
        have : (s.data.toList.drop 0)[j]'(by rw [List.length_drop]; omega) = s[0 + j]'(by omega) := (List.getElem?_eq_some_iff.1 e).2
        rw [this]
        exact unhide HDG (0 + j) (by omega) (by omega) (by omega)
      refine Nat.lt_of_lt_of_le (vL_lt ha) (Dm.p10_le ?_)
      rw [List.length_take]
      omega
    have Lv := Ln_lt10 lv
    go_upto_region 9 with fail
    go_cut [40] from 25 to 55 (fun v wx => v = .bool (dgAt s n) ∧ wx = wr)
    case first =>
      by_cases hn : n < s.size
      · have hn' : (n : Int) < (s.size : Int) := by omega
        by_cases hd : isDg s[n] = true
        · have hb' := isDg_bd hd
          have h1 : (48 : Int) ≤ (s[n].toNat : Int) := by omega
          have h2 : (s[n].toNat : Int) ≤ 57 := by omega
          have HE : Hid (dgAt s n = true) := hide ((dgAt_in hn).trans hd)
          clear hd hb'
          go_wp2_with fail
          go_meet
          case rel => exact ⟨by rw [unhide HE], rfl⟩
        · have HE : Hid (dgAt s n = false) := hide ((dgAt_in hn).trans (by simpa using hd))
          have hb' : (s[n].toNat : Int) < 48 ∨ 57 < (s[n].toNat : Int) := by
            unfold isDg at hd
            simp at hd
            omega
          clear hd
          rcases hb' with hb' | hb'
          · have h1 : ¬ (48 : Int) ≤ (s[n].toNat : Int) := by omega
            go_wp2_with fail
            go_meet
            case rel => exact ⟨by rw [unhide HE], rfl⟩
          · have h1 : (48 : Int) ≤ (s[n].toNat : Int) := by omega
            have h2 : ¬ (s[n].toNat : Int) ≤ 57 := by omega
            go_wp2_with fail
            go_meet
            case rel => exact ⟨by rw [unhide HE], rfl⟩
      · have hn' : ¬ (n : Int) < (s.size : Int) := by omega
        have HE : Hid (dgAt s n = false) := hide (dgAt_out hn)
        go_wp2_with fail
        go_meet
        case rel => exact ⟨by rw [unhide HE], rfl⟩
    case rest =>
      obtain ⟨wy, rfl⟩ : ∃ wy, wy = wc := ⟨_, rfl⟩
      obtain ⟨rfl, rfl⟩ := hcut
      by_cases hdg : dgAt s n = true
      · rw [hdg]
        have hn : n < s.size := by
          rcases Nat.lt_or_ge n s.size with k | k
          · exact k
          · rw [dgAt_out (by omega)] at hdg; cases hdg
        have hd : isDg s[n] = true := (dgAt_in hn).symm.trans hdg
        have hb' := isDg_bd hd
        have hn' : (n : Int) < (s.size : Int) := by omega
        obtain ⟨d, hdd⟩ : ∃ d : Nat, d = s[n].toNat - 48 := ⟨_, rfl⟩
        have e1 : (s[n].toNat : Int) - 48 = (d : Int) := by omega
        have wru : IntKind.u8.wrap (d : Int) = (d : Int) := by rw [IntKind.wrap_u8]; omega
        have wri : IntKind.i64.wrap (d : Int) = (d : Int) := by rw [IntKind.wrap_i64]; omega
        have hd9 : d ≤ 9 := by omega
        have HV2 : Hid (vL ((s.data.toList.drop 0).take (n + 1 - 0)) = vL ((s.data.toList.drop 0).take (n - 0)) * 10 + d) := hide (by rw [vL_step hnb hn, hdd])
        have HDG2 : Hid (∀ j (h : j < s.size), 0 ≤ j → j < n + 1 → isDg s[j] = true) := hide fun j hj h1 h2 => by
          by_cases e : j = n
          · subst e; exact hd
          · exact unhide HDG j hj h1 (by omega)
        obtain ⟨V, hV⟩ : ∃ V, vL ((s.data.toList.drop 0).take (n - 0)) = V := ⟨_, rfl⟩
        rw [hV] at HR Lv HV2
        have NT := hide (newRat_any 10 1 wy (by omega) (by omega) (by omega) (by omega))
        clear hdg hd hb' hdd hV HDG lv
        go_wp2_with fail
        refine (unhide NT).mono ?_
        rintro e w1 ⟨rfl, r1, hb1⟩
        have MU := hide (rmul_any (w.heap.size + 1) (w.heap.size + 1) wy.heap.size (V : Int) 1 10 1 w1 ((unhide HR).below hb1).place ((unhide HR).below hb1) r1 (by omega) (by omega) (by omega) (Nat.le_trans (Ln_small (x := 1) (by decide)) (by omega)) (Nat.le_trans (Ln_small (x := 10) (by decide)) (by omega)) (Nat.le_trans (Ln_small (x := 1) (by decide)) (by omega)))
        have HB1 := hide (below_step (unhide HB) hb1)
        clear r1 hb1 NT
        go_wp2_with fail
        refine (unhide MU).mono ?_
        rintro e w2 ⟨rfl, r2, k2⟩
        have HR2 : Hid (RV w2 (w.heap.size + 1) ((V : Int) * 10) 1) := hide r2
        have HB2 := hide ((unhide HB1).trans (k2.below (by omega) (unhide HB1).size))
        have ND := hide (newRat_any (d : Int) 1 w2 (by omega) (by omega) (by omega) (by omega))
        clear r2 k2 MU HB1 HR HB
        go_wp2_with fail
        try rw [e1]
        try rw [wru]
        refine (unhide ND).mono ?_
        rintro e w3 ⟨rfl, r3, hb3⟩
        have l3 := Ln_mul (V : Int) 10
        have l4 : Ln 10 ≤ 2 := Ln_small (by decide)
        have AD := hide (radd_any (w.heap.size + 1) (w.heap.size + 1) w2.heap.size ((V : Int) * 10) 1 (d : Int) 1 w3 ((unhide HR2).below hb3).place ((unhide HR2).below hb3) r3 (by omega) (by omega) (by omega) (Nat.le_trans (Ln_small (x := 1) (by decide)) (by omega)) (Nat.le_trans (Ln_small (x := (d : Int)) (by omega)) (by omega)) (Nat.le_trans (Ln_small (x := 1) (by decide)) (by omega)))
        have HB3 := hide (below_step (unhide HB2) hb3)
        clear r3 hb3 ND
        go_wp2_with fail
        refine (unhide AD).mono ?_
        rintro e w4 ⟨rfl, r4, k4⟩
        have HR4 : Hid (RV w4 (w.heap.size + 1) ((vL ((s.data.toList.drop 0).take (n + 1 - 0)) : Nat) : Int) 1) := hide (by
          rw [unhide HV2]
          have e2 : (((V * 10 + d : Nat) : Nat) : Int) = (V : Int) * 10 * 1 + (d : Int) * 1 := by simp
          rw [e2]
          exact r4)
        have HB4 := hide ((unhide HB3).trans (k4.below (by omega) (unhide HB3).size))
        clear r4 k4 AD HB3 HR2 HB2
        go_wp2
        refine ⟨⟨n + 1, by omega, by omega, by first | rfl | go_num, HDG2, HR4, HB4⟩, ?_⟩
        simp [intOf]; omega
      · have hdf : dgAt s n = false := by simpa using hdg
        rw [hdf]
        have RUN := run_of hnb hns (unhide HDG) hdf
        have hl0 := fun h : 0 < n => lead_at (s := s) h hns
        obtain ⟨A, hA⟩ : ∃ A, (s.data.toList.drop 0).take (n - 0) = A := ⟨_, rfl⟩
        have HA := hide hA
        rw [hA] at HR Lv lv hl0
        have HRUN := hide RUN
        clear RUN hdf hA hdg
        go_upto_region 13 with fail
        go_cut [70] from 56 (fun v wx => v = .bool (decide (n = 0) || lead0 A) ∧ wx = wy)
        case first =>
          by_cases h0 : n = 0
          · have hq : ((n : Int) == 0) = true := by rw [beq_iff_eq]; omega
            have HE : Hid ((decide (n = 0) || lead0 A) = true) := hide (by rw [decide_eq_true h0]; rfl)
            clear h0 hl0
            go_wp2_with fail
            go_meet
            case rel => exact ⟨by rw [unhide HE], rfl⟩
          · have hq : ((n : Int) == 0) = false := by rw [beq_eq_false_iff_ne]; omega
            have hlt : 0 < n := by omega
            have hsb : 0 < s.size := by omega
            have HL := hl0 hlt
            have hq3 := byte48 s[0]
            by_cases h1 : (1 : Int) < (n : Int) - 0
            · have HE : Hid (decide (s[0] = 48) = (decide (n = 0) || lead0 A)) := hide (by rw [HL, decide_eq_false h0, decide_eq_true (show 1 < n - 0 by omega)]; rfl)
              clear HL hl0 h0
              go_wp2_with fail
              go_meet
              case rel => exact ⟨by rw [← unhide HE], rfl⟩
            · have HE : Hid ((decide (n = 0) || lead0 A) = false) := hide (by rw [HL, decide_eq_false h0, decide_eq_false (show ¬ 1 < n - 0 by omega)]; rfl)
              clear HL hl0 h0
              go_wp2_with fail
              go_meet
              case rel => exact ⟨by rw [unhide HE], rfl⟩
        case rest =>
          obtain ⟨wz, rfl⟩ : ∃ wz, wz = wc := ⟨_, rfl⟩
          obtain ⟨rfl, rfl⟩ := hcut
          clear hl0
          by_cases hbad : (decide (n = 0) || lead0 A) = true
          · rw [hbad]
            have HP : Hid (P = (0, 0, 2)) := hide (unhide FORM (run_bad (unhide HRUN) (by
              rw [unhide HA]
              have : n = 0 ∨ lead0 A = true := by simpa using hbad
              rcases this with k | k
              · left; omega
              · right; exact k)))
            clear hbad
            have rs := (unhide HRS).below (unhide HB)
            obtain ⟨rl, rr0, rr1, rf0, rf1⟩ := rs
            have hbf := hide ((unhide HNA).trans ((unhide HB).mono (by omega)))
            go_wp2
            refine bodyPost_ret (v := .tuple #[.agg #[.int .i64 0, .int .i64 0], .int .i64 2]) (by simp [results, Tryz.results5, go_sem, rr0, rr1]) rfl ?_
            rw [unhide HP]
            exact ⟨rfl, ((unhide hbf).setCell (by simp) _).setCell (by simp) _⟩
          · have hgood : (decide (n = 0) || lead0 A) = false := by simpa using hbad
            rw [hgood]
            have hne : n ≠ 0 := fun k => hbad (by rw [decide_eq_true k]; rfl)
            have hlead : lead0 A = false := by
              rcases Bool.eq_false_or_eq_true (lead0 A) with k | k
              · exact absurd (by rw [k]; simp) hbad
              · exact k
            have HLEAD := hide hlead
            clear hbad hgood hlead
            by_cases hn : n < s.size
            · have hn' : (n : Int) < (s.size : Int) := by omega
              have hq4 := byte46 s[n]
              by_cases h46 : s[n] = 46
              · rw [decide_eq_true h46] at hq4
                have h46x := hide h46
                have NU := hide (newRat_any 1 1 wz (by omega) (by omega) (by omega) (by omega))
                have lz := (unhide HR).place.low
                clear h46
                go_wp2_with fail
                refine (unhide NU).mono ?_
                rintro e w5 ⟨rfl, ru, hb5⟩
                have HU5 : Hid (RV w5 wz.heap.size 1 ((10 : Int) ^ (n + 1 - (n + 1)))) := hide (by rw [Nat.sub_self, Int.pow_zero]; exact ru)
                have HR5 : Hid (RV w5 (w.heap.size + 1) ((vL A : Nat) : Int) ((10 : Int) ^ 0)) := hide (by rw [Int.pow_zero]; exact (unhide HR).below hb5)
                have HB5 := hide (below_step (unhide HB) hb5)
                have HEQ5 : Hid (((vL A : Nat) : Int) * (10 : Int) ^ (n + 1 - (n + 1)) = ((vL (A ++ (s.data.toList.drop (n + 1)).take (n + 1 - (n + 1))) : Nat) : Int) * (10 : Int) ^ 0) := hide (by rw [Nat.sub_self, Int.pow_zero, List.take_zero, List.append_nil])
                have hAl : A.length ≤ n := by rw [← unhide HA, List.length_take]; omega
                have hAd : A.all isDg = true := by rw [← unhide HA]; exact (unhide HRUN).dig
                have HAD := hide hAd
                have swz := (unhide HB).size
                clear ru hb5 NU HR HB hAd lv Lv
                go_wp2_with fail
                go_loopw [4] (fun i wr => ∃ (n2 e : Nat) (N : Int), n + 1 ≤ n2 ∧ n2 ≤ s.size ∧ i = .int .i64 (n2 : Int) ∧ e ≤ 100 * (n2 - (n + 1)) ∧ Hid (∀ j (h : j < s.size), n + 1 ≤ j → j < n2 → isDg s[j] = true) ∧ Hid (RV wr wz.heap.size 1 ((10 : Int) ^ (n2 - (n + 1)))) ∧ Hid (RV wr (w.heap.size + 1) N ((10 : Int) ^ e)) ∧ Hid (N * (10 : Int) ^ (n2 - (n + 1)) = ((vL (A ++ (s.data.toList.drop (n + 1)).take (n2 - (n + 1))) : Nat) : Int) * (10 : Int) ^ e) ∧ Hid (Below wA.heap.size wA wr)) (fun i _ => s.size - (intOf i).toNat)
                case atStart => exact ⟨n + 1, 0, _, Nat.le_refl _, by omega, by first | rfl | go_num, by omega, hide (fun j _ h1 h2 => absurd h2 (by omega)), HU5, HR5, HEQ5, HB5⟩
                case round =>
                  obtain ⟨n2, e, N, hn2, hs2, rfl, he, HDG2, HU, HR, HEQ, HB⟩ := hrel
                  clear HU5 HR5 HB5 HEQ5
                  have sr2 := (unhide HB).size
                  obtain ⟨k, hk⟩ : ∃ k : Nat, n2 - (n + 1) = k := ⟨_, rfl⟩
                  rw [hk] at HU HEQ he
                  have hk99 : k ≤ 99 := by omega
                  have HK := hide hk
                  have lv2 : vL (A ++ (s.data.toList.drop (n + 1)).take k) < 10 ^ 100 := by
                    have hz : s.data.toList.length = s.size := rfl
                    have ha : ((s.data.toList.drop (n + 1)).take k).all isDg = true := by
                      rw [List.all_eq_true]
                      intro y hy
                      obtain ⟨j, hj, rfl⟩ := List.getElem_of_mem hy
                      rw [List.length_take, List.length_drop] at hj
                      have e := drop_at s (n + 1) j (by omega)
                      rw [List.getElem_take]
                      have : (s.data.toList.drop (n + 1))[j]'(by rw [List.length_drop]; omega) = s[n + 1 + j]'(by omega) := (List.getElem?_eq_some_iff.1 e).2
                      rw [this]
                      exact unhide HDG2 (n + 1 + j) (by omega) (by omega) (by omega)
                    refine Nat.lt_of_lt_of_le (vL_lt (by rw [List.all_append, unhide HAD, ha]; rfl)) (Dm.p10_le ?_)
                    rw [List.length_append, List.length_take]
                    omega
                  have Lv2 := Ln_lt10 lv2
                  have LD := Ln_ten9 e
                  have LE : e / 9 ≤ 1100 := by omega
                  have LN : Ln N ≤ 1300 := by
                    have h1 := congrArg Int.natAbs (unhide HEQ)
                    rw [Int.natAbs_mul] at h1
                    have p1 : 1 ≤ ((10 : Int) ^ k).natAbs := by rw [Int.natAbs_pow]; exact Dm.p10_pos k
                    have h2 : N.natAbs * 1 ≤ N.natAbs * ((10 : Int) ^ k).natAbs := Nat.mul_le_mul_left _ p1
                    have h3 := Ln_mono (x := N) (y := ((vL (A ++ (s.data.toList.drop (n + 1)).take k) : Nat) : Int) * (10 : Int) ^ e) (by omega)
                    have h4 := Ln_mul ((vL (A ++ (s.data.toList.drop (n + 1)).take k) : Nat) : Int) ((10 : Int) ^ e)
                    omega
                  have LK := Ln_ten k
                  go_upto_region 19 with fail
                  go_cut [101] from 86 to 119 (fun v wx => v = .bool (dgAt s n2) ∧ wx = wr)
                  case first =>
                    by_cases hn3 : n2 < s.size
                    · have hn3' : (n2 : Int) < (s.size : Int) := by omega
                      by_cases hd : isDg s[n2] = true
                      · have hb' := isDg_bd hd
                        have h1 : (48 : Int) ≤ (s[n2].toNat : Int) := by omega
                        have h2 : (s[n2].toNat : Int) ≤ 57 := by omega
                        have HE : Hid (dgAt s n2 = true) := hide ((dgAt_in hn3).trans hd)
                        clear hd hb'
                        go_wp2_with fail
                        go_meet
                        case rel => exact ⟨by rw [unhide HE], rfl⟩
                      · have HE : Hid (dgAt s n2 = false) := hide ((dgAt_in hn3).trans (by simpa using hd))
                        have hb' : (s[n2].toNat : Int) < 48 ∨ 57 < (s[n2].toNat : Int) := by
                          unfold isDg at hd
                          simp at hd
                          omega
                        clear hd
                        rcases hb' with hb' | hb'
                        · have h1 : ¬ (48 : Int) ≤ (s[n2].toNat : Int) := by omega
                          go_wp2_with fail
                          go_meet
                          case rel => exact ⟨by rw [unhide HE], rfl⟩
                        · have h1 : (48 : Int) ≤ (s[n2].toNat : Int) := by omega
                          have h2 : ¬ (s[n2].toNat : Int) ≤ 57 := by omega
                          go_wp2_with fail
                          go_meet
                          case rel => exact ⟨by rw [unhide HE], rfl⟩
                    · have hn3' : ¬ (n2 : Int) < (s.size : Int) := by omega
                      have HE : Hid (dgAt s n2 = false) := hide (dgAt_out hn3)
                      go_wp2_with fail
                      go_meet
                      case rel => exact ⟨by rw [unhide HE], rfl⟩
                  case rest =>
                    obtain ⟨wv, rfl⟩ : ∃ wv, wv = wc := ⟨_, rfl⟩
                    obtain ⟨rfl, rfl⟩ := hcut
                    by_cases hdg : dgAt s n2 = true
                    · rw [hdg]
                      have hn3 : n2 < s.size := by
                        rcases Nat.lt_or_ge n2 s.size with q | q
                        · exact q
                        · rw [dgAt_out (by omega)] at hdg; cases hdg
                      have hd : isDg s[n2] = true := (dgAt_in hn3).symm.trans hdg
                      have hb' := isDg_bd hd
                      have hn3' : (n2 : Int) < (s.size : Int) := by omega
                      obtain ⟨d, hdd⟩ : ∃ d : Nat, d = s[n2].toNat - 48 := ⟨_, rfl⟩
                      have e1 : (s[n2].toNat : Int) - 48 = (d : Int) := by omega
                      have wru : IntKind.u8.wrap (d : Int) = (d : Int) := by rw [IntKind.wrap_u8]; omega
                      have wri : IntKind.i64.wrap (d : Int) = (d : Int) := by rw [IntKind.wrap_i64]; omega
                      have hd9 : d ≤ 9 := by omega
                      obtain ⟨V, hV⟩ : ∃ V, vL (A ++ (s.data.toList.drop (n + 1)).take k) = V := ⟨_, rfl⟩
                      have HV2 : Hid (vL (A ++ (s.data.toList.drop (n + 1)).take (n2 + 1 - (n + 1))) = V * 10 + d) := hide (by
                        have q := drop_at s (n + 1) k (by omega)
                        have q2 : n2 + 1 - (n + 1) = k + 1 := by omega
                        have q3 : (s.data.toList.drop (n + 1))[k]? = some s[n2] := by
                          rw [q]
                          have : n + 1 + k = n2 := by omega
                          simp only [this]
                        rw [q2, List.take_add_one, q3, ← List.append_assoc, vL_app, hV, hdd]
                        simp [vL_one])
                      have HDG3 : Hid (∀ j (h : j < s.size), n + 1 ≤ j → j < n2 + 1 → isDg s[j] = true) := hide fun j hj h1 h2 => by
                        by_cases q : j = n2
                        · subst q; exact hd
                        · exact unhide HDG2 j hj h1 (by omega)
                      rw [hV] at HEQ
                      have NT := hide (newRat_any 10 1 wv (by omega) (by omega) (by omega) (by omega))
                      have lu := (unhide HU).place.low
                      clear hdg hd hb' hdd hV HDG2 lv2 Lv2 hk
                      go_wp2_with fail
                      refine (unhide NT).mono ?_
                      rintro e9 y1 ⟨rfl, r1, hb1⟩
                      have QU := hide (rquo_any wz.heap.size wz.heap.size wv.heap.size 1 ((10 : Int) ^ k) 10 1 y1 ((unhide HU).below hb1).place ((unhide HU).below hb1) r1 (pow_ne _) (by omega) (Nat.le_trans (Ln_small (x := 1) (by decide)) (by omega)) (by omega) (Nat.le_trans (Ln_small (x := 10) (by decide)) (by omega)) (Nat.le_trans (Ln_small (x := 1) (by decide)) (by omega)) (by omega))
                      have HB1 := hide (below_step (unhide HB) hb1)
                      have HR1 := hide ((unhide HR).below hb1)
                      have HZU := hide ((unhide HU).below hb1).place
                      clear r1 hb1 NT HU HR HB
                      go_wp2_with fail
                      refine (unhide QU).mono ?_
                      rintro e9 y2 ⟨rfl, r2, k2⟩
                      have HU2 : Hid (RV y2 wz.heap.size 1 ((10 : Int) ^ (k + 1))) := hide (by rw [Int.pow_succ]; exact r2)
                      have HR2 := hide ((unhide HR1).kept (Kept.blk' k2 (unhide HZU) (unhide HR1).place.low (by omega)))
                      have HB2 := hide ((unhide HB1).trans (k2.below (by omega) (unhide HB1).size))
                      have NX := below_new y2 (.cells #[.bool false, .slice none 0 0, .bool false, .slice none 0 0] 45)
                      have ND := hide (newRat_at (d : Int) 1 (y2.alloc (.cells #[.bool false, .slice none 0 0, .bool false, .slice none 0 0] 45)) (y2.heap.size + 1) (by simp) (by omega) (by omega) (by omega) (by omega))
                      have HU3 := hide ((unhide HU2).below NX)
                      have HR3 := hide ((unhide HR2).below NX)
                      have HB3 := hide (below_step (unhide HB2) NX)
                      have HX3 := hide (ZA.newR y2)
                      have ly2 := (unhide HU2).place.low
                      clear r2 k2 QU HB1 HR1 HZU NX HU2 HR2 HB2
                      go_wp2_with fail
                      try rw [e1]
                      try rw [wru]
                      refine (unhide ND).mono ?_
                      rintro e9 y3 ⟨rfl, r3, hb3⟩
                      have LK1 := Ln_ten (k + 1)
                      have MX := hide (rmul_any y2.heap.size wz.heap.size (y2.heap.size + 1) 1 ((10 : Int) ^ (k + 1)) (d : Int) 1 y3 ((unhide HX3).below hb3) ((unhide HU3).below hb3) r3 (pow_ne _) (by omega) (Nat.le_trans (Ln_small (x := 1) (by decide)) (by omega)) (by omega) (Nat.le_trans (Ln_small (x := (d : Int)) (by omega)) (by omega)) (Nat.le_trans (Ln_small (x := 1) (by decide)) (by omega)))
                      have HU4 := hide ((unhide HU3).below hb3)
                      have HR4 := hide ((unhide HR3).below hb3)
                      have HB4 := hide (below_step (unhide HB3) hb3)
                      have HX4 := hide ((unhide HX3).below hb3)
                      clear r3 hb3 ND HU3 HR3 HB3 HX3
                      go_wp2_with fail
                      refine (unhide MX).mono ?_
                      rintro e9 y4 ⟨rfl, r4, k4⟩
                      have HU5 := hide ((unhide HU4).kept (Kept.blk' k4 (unhide HX4) (unhide HU4).place.low (by omega)))
                      have HR5 := hide ((unhide HR4).kept (Kept.blk' k4 (unhide HX4) (unhide HR4).place.low (by omega)))
                      have sy2 := (unhide HB4).size
                      have HB5 := hide ((unhide HB4).trans (k4.below (by omega) (unhide HB4).size))
                      have r5 : RV y4 y2.heap.size (d : Int) ((10 : Int) ^ (k + 1)) := by rw [Int.one_mul, Int.mul_one] at r4; exact r4
                      have AD := hide (radd_any (w.heap.size + 1) (w.heap.size + 1) y2.heap.size N ((10 : Int) ^ e) (d : Int) ((10 : Int) ^ (k + 1)) y4 (unhide HR5).place (unhide HR5) r5 (pow_ne _) (pow_ne _) (by omega) (by omega) (Nat.le_trans (Ln_small (x := (d : Int)) (by omega)) (by omega)) (by omega))
                      have HZR := hide (unhide HR5).place
                      clear r4 k4 r5 MX HU4 HR4 HB4 HX4
                      go_wp2_with fail
                      refine (unhide AD).mono ?_
                      rintro e9 y5 ⟨rfl, r6, k6⟩
                      have HU6 : Hid (RV y5 wz.heap.size 1 ((10 : Int) ^ (n2 + 1 - (n + 1)))) := hide (by
                        have q2 : n2 + 1 - (n + 1) = k + 1 := by have := unhide HK; omega
                        rw [q2]
                        exact (unhide HU5).kept (Kept.blk' k6 (unhide HZR) (unhide HU5).place.low (by omega)))
                      have HR6 : Hid (RV y5 (w.heap.size + 1) (N * (10 : Int) ^ (k + 1) + (d : Int) * (10 : Int) ^ e) ((10 : Int) ^ (e + (k + 1)))) := hide (by rw [show (10 : Int) ^ (e + (k + 1)) = (10 : Int) ^ e * (10 : Int) ^ (k + 1) from Int.pow_add 10 e (k + 1)]; exact r6)
                      have HB6 := hide ((unhide HB5).trans (k6.below (by omega) (unhide HB5).size))
                      have HEQ6 : Hid ((N * (10 : Int) ^ (k + 1) + (d : Int) * (10 : Int) ^ e) * (10 : Int) ^ (n2 + 1 - (n + 1)) = ((vL (A ++ (s.data.toList.drop (n + 1)).take (n2 + 1 - (n + 1))) : Nat) : Int) * (10 : Int) ^ (e + (k + 1))) := hide (by
                        rw [unhide HV2]
                        have q2 : n2 + 1 - (n + 1) = k + 1 := by have := unhide HK; omega
                        rw [q2, show (10 : Int) ^ (e + (k + 1)) = (10 : Int) ^ e * (10 : Int) ^ (k + 1) from Int.pow_add 10 e (k + 1), show (10 : Int) ^ (k + 1) = (10 : Int) ^ k * 10 from Int.pow_succ 10 k]
                        have q3 := unhide HEQ
                        have q4 : (((V * 10 + d : Nat) : Nat) : Int) = (V : Int) * 10 + (d : Int) := by simp
                        rw [q4]
                        generalize (10 : Int) ^ k = X at *
                        generalize (10 : Int) ^ e = Y at *
                        have q5 : N * (X * 10) = (V : Int) * Y * 10 := by rw [← q3]; grind
                        rw [q5]
                        grind)
                      clear r6 k6 AD HU5 HR5 HB5 HZR
                      go_wp2
                      refine ⟨⟨n2 + 1, e + (k + 1), _, by omega, by omega, by first | rfl | go_num, by have := unhide HK; omega, HDG3, HU6, HR6, HEQ6, HB6⟩, ?_⟩
                      simp [intOf]; omega
                    · have hdf : dgAt s n2 = false := by simpa using hdg
                      rw [hdf]
                      have RUN2 := run_of hn2 hs2 (unhide HDG2) hdf
                      rw [hk] at RUN2
                      have PNT : cut1 (s.data.toList.drop 0) 46 = ((s.data.toList.drop 0).take (n - 0), (s.data.toList.drop 0).drop (n - 0 + 1), true) ∧ pOk ((s.data.toList.drop 0).take (n - 0)) ((s.data.toList.drop 0).drop (n - 0 + 1)) true = decide (k = ((s.data.toList.drop 0).drop (n - 0 + 1)).length ∧ k ≠ 0) := by
                        have q1 := drop_at s 0 (n - 0) (by omega)
                        have q2 : 0 + (n - 0) = n := by omega
                        simp only [q2] at q1
                        have q3 : (s.data.toList.drop 0).drop (n - 0 + 1) = s.data.toList.drop (n + 1) := by rw [List.drop_drop]; congr 1; omega
                        exact run_point (unhide HRUN) (by omega) (by rw [unhide HA]; exact unhide HLEAD) (by rw [q1, unhide h46x]) (by rw [q3]; exact RUN2)
                      have hlenM : ((s.data.toList.drop 0).drop (n - 0 + 1)).length = s.size - (n + 1) := by
                        have hz : s.data.toList.length = s.size := rfl
                        rw [List.length_drop, List.length_drop, hz]
                        omega
                      rw [hlenM] at PNT
                      have q3' : (s.data.toList.drop 0).drop (n - 0 + 1) = s.data.toList.drop (n + 1) := by rw [List.drop_drop]; congr 1; omega
                      have HFB : Hid ((k = 0 ∨ n2 < s.size) → P = (0, 0, 2)) := hide fun q => unhide FORM (by
                        rw [PNT.1]
                        exact PNT.2.trans (decide_eq_false (by omega)))
                      have HGD : Hid (k ≠ 0 → n2 = s.size → P = (nC false (vL (A ++ (s.data.toList.drop (n + 1)).take k)) (-(k : Int)), nX false (vL (A ++ (s.data.toList.drop (n + 1)).take k)) (-(k : Int)), nR false (vL (A ++ (s.data.toList.drop (n + 1)).take k)) (-(k : Int)))) := hide fun q1 q2 => by
                        have g3 := unhide GOOD _ _ _ PNT.1 (PNT.2.trans (decide_eq_true ⟨by omega, q1⟩))
                        rw [hlenM, unhide HA, q3', show s.size - (n + 1) = k by omega] at g3
                        rw [show (s.data.toList.drop (n + 1)).take k = s.data.toList.drop (n + 1) by
                          rw [List.take_of_length_le]
                          have hz : s.data.toList.length = s.size := rfl
                          rw [List.length_drop, hz]
                          omega]
                        exact g3
                      clear PNT hlenM q3' RUN2 hdf hdg HDG2 HRUN
                      by_cases hk0 : k = 0
                      · have hq5 : (((n2 : Nat) : Int) == (n : Int) + 1) = true := by rw [beq_iff_eq]; omega
                        have HP := hide (unhide HFB (.inl hk0))
                        clear hk0 hk
                        have rs := (unhide HRS).below (unhide HB)
                        obtain ⟨rl, rr0, rr1, rf0, rf1⟩ := rs
                        have hbf := hide ((unhide HNA).trans ((unhide HB).mono (by omega)))
                        go_wp2
                        refine bodyPost_ret (v := .tuple #[.agg #[.int .i64 0, .int .i64 0], .int .i64 2]) (by simp [results, Tryz.results5, go_sem, rr0, rr1]) rfl ?_
                        rw [unhide HP]
                        exact ⟨rfl, ((unhide hbf).setCell (by simp) _).setCell (by simp) _⟩
                      · have hq5 : (((n2 : Nat) : Int) == (n : Int) + 1) = false := by rw [beq_eq_false_iff_ne]; omega
                        by_cases hn3 : n2 < s.size
                        · have hn3' : (n2 : Int) < (s.size : Int) := by omega
                          have HP := hide (unhide HFB (.inr hn3))
                          clear hk0 hk
                          have rs := (unhide HRS).below (unhide HB)
                          obtain ⟨rl, rr0, rr1, rf0, rf1⟩ := rs
                          have hbf := hide ((unhide HNA).trans ((unhide HB).mono (by omega)))
                          go_wp2
                          refine bodyPost_ret (v := .tuple #[.agg #[.int .i64 0, .int .i64 0], .int .i64 2]) (by simp [results, Tryz.results5, go_sem, rr0, rr1]) rfl ?_
                          rw [unhide HP]
                          exact ⟨rfl, ((unhide hbf).setCell (by simp) _).setCell (by simp) _⟩
                        · have hn3' : ¬ (n2 : Int) < (s.size : Int) := by omega
                          have HDP : Hid ((0 : Int) < (10 : Int) ^ e) := hide (Int.pow_pos (by decide))
                          have HV200 : Hid (vL (A ++ (s.data.toList.drop (n + 1)).take k) < 10 ^ 200) := hide (Nat.lt_of_lt_of_le lv2 (Dm.p10_le (by omega)))
                          have HPG := hide (unhide HGD hk0 (by omega))
                          clear hk0 hk lv2
                          obtain ⟨⟨v1, v2, v3⟩, hv⟩ : ∃ F, fitT (N) ((10 : Int) ^ e) = F := ⟨_, rfl⟩
                          have FT : Hid (Calls Tryz.prog 18 #[.pointer (some ⟨(w.heap.size + 1), 0, none⟩)] wv fun e w' => e = .returned (.tuple #[.agg #[.int .i64 v1, .int .i64 v2], .int .i64 v3]) ∧ Below wv.heap.size wv w') := hide ((fit_any (w.heap.size + 1) (N) ((10 : Int) ^ e) wv (unhide HR) (unhide HDP) (by omega) (by omega)).mono (by
                            rintro e w' ⟨rfl, h⟩
                            exact ⟨by rw [hv]; rfl, h⟩))
                          have HV : Hid (P = (v1, v2, v3)) := hide (by
                            rw [← hv]
                            have := digits_told false (unhide HDP) (unhide HV200) (unhide HEQ)
                            simp only [Bool.false_eq_true, if_false] at this
                            rw [this]
                            exact unhide HPG)
                          clear hv
                          go_wp2_with fail
                          refine (unhide FT).mono ?_
                          rintro e wf ⟨rfl, hbf⟩
                          have HBF := hide (below_step (unhide HB) hbf)
                          clear hbf FT
                          have rs := (unhide HRS).below (unhide HBF)
                          obtain ⟨rl, rr0, rr1, rf0, rf1⟩ := rs
                          have hbf := hide ((unhide HNA).trans ((unhide HBF).mono (by omega)))
                          go_wp2
                          refine bodyPost_ret (v := .tuple #[.agg #[.int .i64 v1, .int .i64 v2], .int .i64 v3]) (by simp [results, Tryz.results5, go_sem, rr0, rr1]) rfl ?_
                          rw [unhide HV]
                          exact ⟨rfl, ((unhide hbf).setCell (by simp) _).setCell (by simp) _⟩
              · rw [decide_eq_false h46] at hq4
                have HP : Hid (P = (0, 0, 2)) := hide (unhide FORM (by
                  have r := unhide HRUN
                  have e := drop_at s 0 (n - 0) (by omega)
                  have e2 : 0 + (n - 0) = n := by omega
                  simp only [e2] at e
                  exact pOk_other r.dig e (r.stop _ e) h46))
                clear h46
                have rs := (unhide HRS).below (unhide HB)
                obtain ⟨rl, rr0, rr1, rf0, rf1⟩ := rs
                have hbf := hide ((unhide HNA).trans ((unhide HB).mono (by omega)))
                go_wp2
                refine bodyPost_ret (v := .tuple #[.agg #[.int .i64 0, .int .i64 0], .int .i64 2]) (by simp [results, Tryz.results5, go_sem, rr0, rr1]) rfl ?_
                rw [unhide HP]
                exact ⟨rfl, ((unhide hbf).setCell (by simp) _).setCell (by simp) _⟩
            · have hn' : ¬ (n : Int) < (s.size : Int) := by omega
              have HDP : Hid ((0 : Int) < 1) := hide (by omega)
              have HV200 : Hid (vL A < 10 ^ 200) := hide (Nat.lt_of_lt_of_le lv (Dm.p10_le (by omega)))
              have HEQ : Hid (((vL A : Nat) : Int) * (10 : Int) ^ 0 = ((vL A : Nat) : Int) * 1) := hide (by rw [Int.pow_zero])
              have HPG : Hid (P = (nC false (vL A) (-((0 : Nat) : Int)), nX false (vL A) (-((0 : Nat) : Int)), nR false (vL A) (-((0 : Nat) : Int)))) := hide (by
                have r := unhide HRUN
                have hz : s.data.toList.length = s.size := rfl
                have hlen : (s.data.toList.drop 0).length = s.size - 0 := by rw [List.length_drop, hz]
                obtain ⟨g1, g2⟩ := run_whole r (by omega) (by rw [unhide HA]; exact unhide HLEAD) (by omega)
                have g3 := unhide GOOD _ _ _ g1 g2
                rw [List.append_nil] at g3
                have g4 : A = (s.data.toList.drop 0) := by rw [← unhide HA, show n - 0 = (s.data.toList.drop 0).length by omega, List.take_length]
                rw [g4]
                exact g3)
              have L1 : Ln 1 ≤ 2 := Ln_small (by decide)
              obtain ⟨⟨v1, v2, v3⟩, hv⟩ : ∃ F, fitT (((vL A : Nat) : Int)) (1) = F := ⟨_, rfl⟩
              have FT : Hid (Calls Tryz.prog 18 #[.pointer (some ⟨(w.heap.size + 1), 0, none⟩)] wz fun e w' => e = .returned (.tuple #[.agg #[.int .i64 v1, .int .i64 v2], .int .i64 v3]) ∧ Below wz.heap.size wz w') := hide ((fit_any (w.heap.size + 1) (((vL A : Nat) : Int)) (1) wz (unhide HR) (unhide HDP) (by omega) (by omega)).mono (by
                rintro e w' ⟨rfl, h⟩
                exact ⟨by rw [hv]; rfl, h⟩))
              have HV : Hid (P = (v1, v2, v3)) := hide (by
                rw [← hv]
                have := digits_told false (unhide HDP) (unhide HV200) (unhide HEQ)
                simp only [Bool.false_eq_true, if_false] at this
                rw [this]
                exact unhide HPG)
              clear hv
              go_wp2_with fail
              refine (unhide FT).mono ?_
              rintro e wf ⟨rfl, hbf⟩
              have HBF := hide (below_step (unhide HB) hbf)
              clear hbf FT
              have rs := (unhide HRS).below (unhide HBF)
              obtain ⟨rl, rr0, rr1, rf0, rf1⟩ := rs
              have hbf := hide ((unhide HNA).trans ((unhide HBF).mono (by omega)))
              go_wp2
              refine bodyPost_ret (v := .tuple #[.agg #[.int .i64 v1, .int .i64 v2], .int .i64 v3]) (by simp [results, Tryz.results5, go_sem, rr0, rr1]) rfl ?_
              rw [unhide HV]
              exact ⟨rfl, ((unhide hbf).setCell (by simp) _).setCell (by simp) _⟩

end Go.Proofs.YtibkemolmpcdcaaGreatDoor
