/- Walks: the document's Look and Wrong tell what look.wrong and Wrong tell. -/
import Derived.Test.YtbdgngfpofohpaaDoorG23
import Derived.Test.YtbdgngfpofohpaaDoorG22
import Derived.Test.YtbdgngfpofohpaaDoorG25
import Derived.Test.YtbdgngfpofohpaaDoorG19
import Derived.Test.YtbdgngfpofohpaaDoorG20
namespace Go.Proofs.YtbdgngfpofohpaaDoor
open Go.RowKit

set_option maxHeartbeats 400000 in
theorem rwrong2_any (c x : Int) (w : World) :
    Calls Tryd.prog 35 #[.agg #[.int .i64 c, .int .i64 x]] w fun e w' => e = .returned (.int .i64 (Dm.wrongN c x)) ∧ Below w.heap.size w w' := by
  go_enter Tryd.func35, Tryd.ntmps35
  go_wp2
  all_goals
    go_ret
    refine ⟨ret_int ?_, (Below.refl _ _).alloc (Nat.le_refl _) _⟩
    unfold Dm.wrongN
    (repeat' split) <;> first | rfl | (exfalso; omega) | (simp_all; done)

theorem St.up {w : World} {p s : Nat} {o : Obj} (h : St w p s) : St ((w.alloc o).setCell ⟨p, 0, none⟩ (.int .i64 ((s : Int) + 1))) p (s + 1) := by
  obtain ⟨h1, h2, h3⟩ := h.below (vbelow_new w o) h.2.2
  refine ⟨?_, ?_, by simpa [World.setCell] using h3⟩
  · simp [go_sem, h1]
  · simp [go_sem, h2]

/-- what Look tells of a tree -/
def LookC (T : Tree) : Prop := ∀ (B : Nat) (w : World) (v : Array Value) (p s d : Nat), Mem B w T v → B ≤ p → St w p s → s ≤ 2000 → 1 ≤ d → d ≤ 21 →
  Calls Tryd.prog 17 #[.pointer (some ⟨p, 0, none⟩), .agg v, .int .i64 (d : Int)] w fun e w' => e = .returned (.int .i64 (wrongF T s d).1) ∧ St w' p (wrongF T s d).2 ∧ Below B w w'

set_option maxRecDepth 100000 in
set_option maxHeartbeats 4000000 in
theorem look_of (k : Int) (y : Bool) (c x : Int) (t : ByteArray) (ks : List Tree) (IH : ∀ u ∈ ks, LookC u) : LookC (.mk k y c x t ks) := by
  intro B w v p s d hM hp hS hs hd1 hd
  rw [Mem] at hM
  obtain ⟨ht, hk, a, cap, rfl, hks⟩ := hM
  have hBw : B ≤ w.heap.size := Nat.le_of_lt (Nat.lt_of_le_of_lt hp hS.2.2)
  have SI := hide (hS.up (o := .cells #[.int .i64 k, .bool y, .int .i64 c, .int .i64 x, .string t, .slice a ks.length cap] 26))
  have BI := hide (((Below.refl B w).alloc hBw (.cells #[.int .i64 k, .bool y, .int .i64 c, .int .i64 x, .string t, .slice a ks.length cap] 26)).setCell (p := ⟨p, 0, none⟩) hp (.int .i64 ((s : Int) + 1)))
  obtain ⟨s1, s2, s3⟩ := hS.below (vbelow_new w (.cells #[.int .i64 k, .bool y, .int .i64 c, .int .i64 x, .string t, .slice a ks.length cap] 26)) hS.2.2
  have s4 : (p == w.heap.size) = false := by rw [beq_eq_false_iff_ne]; exact Nat.ne_of_lt hS.2.2
  have s5 : ¬ w.heap.size = p := Nat.ne_of_gt hS.2.2
  have HM := hide hks
  have IH' := hide IH
  clear hks IH
  by_cases h1 : 2000 < s + 1 ∨ 20 < d
  · rw [wf_much h1]
    by_cases h2 : 2000 < s + 1
    · have h2' : (2000 : Int) < (s : Int) + 1 := by omega
      clear h1
      go_enter Tryd.func17, Tryd.ntmps17
      go_wp2
      go_ret
      exact ⟨rfl, unhide SI, unhide BI⟩
    · have h2' : ¬ (2000 : Int) < (s : Int) + 1 := by omega
      have h3' : (20 : Int) < (d : Int) := by omega
      clear h1
      go_enter Tryd.func17, Tryd.ntmps17
      go_wp2
      go_ret
      exact ⟨rfl, unhide SI, unhide BI⟩
  · have h2' : ¬ (2000 : Int) < (s : Int) + 1 := by omega
    have h3' : ¬ (20 : Int) < (d : Int) := by omega
    have H1 := hide h1
    clear h1
    by_cases k1 : k = 1
    · subst k1
      rw [wf_plain (unhide H1) (.inl rfl)]
      go_enter Tryd.func17, Tryd.ntmps17
      go_wp2
      go_ret
      exact ⟨rfl, unhide SI, unhide BI⟩
    by_cases k2 : k = 2
    · subst k2
      rw [wf_plain (unhide H1) (.inr rfl)]
      go_enter Tryd.func17, Tryd.ntmps17
      go_wp2
      go_ret
      exact ⟨rfl, unhide SI, unhide BI⟩
    by_cases k3 : k = 3
    · subst k3
      rw [wf_num (unhide H1)]
      go_enter Tryd.func17, Tryd.ntmps17
      go_wp2_with fail
      refine (rwrong2_any c x _).mono ?_
      rintro e w2 ⟨rfl, hb⟩
      go_wp2
      go_ret
      exact ⟨rfl, (unhide SI).below hb (unhide SI).2.2, (unhide BI).trans (hb.mono (Nat.le_trans hBw (unhide BI).size))⟩
    by_cases k4 : k = 4
    · subst k4
      rw [wf_text (unhide H1)]
      unfold wrongT
      by_cases hl : (1000 : Int) < (t.size : Int)
      · rw [if_pos hl]
        go_enter Tryd.func17, Tryd.ntmps17
        go_wp2
        go_ret
        exact ⟨rfl, unhide SI, unhide BI⟩
      · rw [if_neg hl]
        have HU := hide (fun w => utf8_is t w (by omega))
        generalize Lib.validD t.data.toList = V at *
        cases V
        · go_enter Tryd.func17, Tryd.ntmps17
          go_wp2_with fail
          refine (unhide HU _).mono ?_
          rintro e w2 ⟨rfl, rfl⟩
          go_wp2
          go_ret
          exact ⟨rfl, unhide SI, unhide BI⟩
        · go_enter Tryd.func17, Tryd.ntmps17
          go_wp2_with fail
          refine (unhide HU _).mono ?_
          rintro e w2 ⟨rfl, rfl⟩
          go_wp2
          go_ret
          exact ⟨rfl, unhide SI, unhide BI⟩
    by_cases k5 : k = 5
    · subst k5
      rw [wf_list (unhide H1)]
      by_cases hlong : 200 < ks.length
      · rw [if_pos hlong]
        have hlong' : (200 : Int) < (ks.length : Int) := by omega
        go_enter Tryd.func17, Tryd.ntmps17
        go_wp2
        go_ret
        exact ⟨rfl, unhide SI, unhide BI⟩
      · rw [if_neg hlong]
        have hlong' : ¬ (200 : Int) < (ks.length : Int) := by omega
        by_cases hnil : ks = []
        · subst hnil
          rw [wrongL_nil]
          simp only [List.length_nil] at SI BI s1 s2 s3 hlong' ⊢
          go_enter Tryd.func17, Tryd.ntmps17
          go_wp2
          go_loopw [61] (fun i wr => i = .int .i64 0 ∧ Hid (St wr p (s + 1)) ∧ Hid (Below B w wr)) (fun _ _ => 0)
          case atStart => exact ⟨rfl, SI, BI⟩
          case round =>
            obtain ⟨rfl, HS, HB⟩ := hrel
            go_wp2
            go_ret
            exact ⟨rfl, unhide HS, unhide HB⟩
        · obtain ⟨b, off, rfl, hbB, hm⟩ := unhide HM hnil
          have hm' := hide hm
          clear hm hnil HM
          go_enter Tryd.func17, Tryd.ntmps17
          go_wp2
          go_loopw [61] (fun i wr => ∃ m si : Nat, m ≤ ks.length ∧ i = .int .i64 (m : Int) ∧ Hid (wrongL ks (s + 1) (d + 1) = wrongL (ks.drop m) si (d + 1)) ∧ si ≤ 2000 ∧ Hid (St wr p si) ∧ Hid (Below B w wr)) (fun i _ => ks.length - (intOf i).toNat)
          case atStart => exact ⟨0, s + 1, Nat.zero_le _, rfl, hide rfl, by omega, SI, BI⟩
          case round =>
            obtain ⟨m, si, hml, rfl, H, hsi, HS, HB⟩ := hrel
            clear SI BI s1 s2 s3 s4 s5
            by_cases hlt2 : m < ks.length
            · have hi1 : (m : Int) < (ks.length : Int) := by omega
              obtain ⟨u, hu⟩ : ∃ u, ks[m]? = some u := ⟨_, List.getElem?_eq_getElem hlt2⟩
              have hdrop : ks.drop m = u :: ks.drop (m + 1) := by
                rw [List.drop_eq_getElem_cons hlt2]
                congr 1
                rw [List.getElem?_eq_getElem hlt2] at hu
                exact Option.some.inj hu
              have HU := hide (unhide IH' u (List.mem_of_getElem? hu))
              obtain ⟨cs, h6, hmu⟩ := MemL.at (MemL.below (unhide HB) hbB (unhide hm')) m u hu
              have HM := hide hmu
              rw [hdrop] at H
              have hbd := hide (wrongF_bd u si (d + 1) hsi)
              cases u with
              | mk k y c x t kk =>
                rw [Mem] at hmu
                obtain ⟨ht, hk, a', cap', rfl, _⟩ := hmu
                obtain ⟨u0, u1, u2, u3, u4, u5, hu6, c0, c1, c2, c3, c4, c5⟩ := h6
                simp only [Array.mk.injEq, List.cons.injEq, and_true] at hu6
                obtain ⟨rfl, rfl, rfl, rfl, rfl, rfl⟩ := hu6
                clear hu hdrop ht hk
                have hcap : ks.length ≤ 200 := by omega
                go_wp2_with fail
                have hbB' : B ≤ wr.heap.size := Nat.le_trans hBw (unhide HB).size
                have hba := (Below.refl B wr).alloc hbB' (.cells #[.int .i64 k, .bool y, .int .i64 c, .int .i64 x, .string t, .slice a' kk.length cap'] 26)
                have hbw := (unhide HB).trans hba
                have HC := unhide HU B _ _ p si (d + 1) (Mem.below hba (unhide HM)) hp ((unhide HS).below ((Below.refl _ _).alloc (Nat.le_refl _) _) (unhide HS).2.2) hsi (by omega) (by omega)
                rw [show ((d + 1 : Nat) : Int) = (d : Int) + 1 by omega] at HC
                refine HC.mono ?_
                rintro e w2 ⟨rfl, hS2, hb2⟩
                have HB2 := hide (hbw.trans hb2)
                have HS2 := hide hS2
                clear hS2 hb2 hba hbw HB HS HM HC
                by_cases hr : (wrongF (.mk k y c x t kk) si (d + 1)).1 = 0
                · have hz : ((wrongF (.mk k y c x t kk) si (d + 1)).1 != 0) = false := by simp [hr]
                  have H2 := hide (wrongL_ok (us := ks.drop (m + 1)) hr)
                  have hle := (unhide hbd).2 hr
                  generalize wrongF (.mk k y c x t kk) si (d + 1) = R at *
                  clear hr
                  go_wp2
                  go_round
                  case rel => exact ⟨m + 1, R.2, by omega, by go_num, hide ((unhide H).trans (unhide H2)), hle, HS2, HB2⟩
                  case measure => simp [intOf]; omega
                · have hz : ((wrongF (.mk k y c x t kk) si (d + 1)).1 != 0) = true := by simp [hr]
                  have H2 := hide ((unhide H).trans (wrongL_no (us := ks.drop (m + 1)) hr))
                  generalize wrongF (.mk k y c x t kk) si (d + 1) = R at *
                  clear hr
                  go_wp2
                  go_ret
                  rw [unhide H2]
                  exact ⟨rfl, unhide HS2, unhide HB2⟩
            · obtain rfl : m = ks.length := by omega
              have H2 : Hid (wrongL ks (s + 1) (d + 1) = (0, si)) := by
                have h := unhide H
                rw [List.drop_length, wrongL_nil] at h
                exact hide h
              go_wp2
              go_ret
              rw [unhide H2]
              exact ⟨rfl, unhide HS, unhide HB⟩
    · rw [wf_else (unhide H1) k1 k2 k3 k4 k5]
      by_cases kl : k < 1
      · go_enter Tryd.func17, Tryd.ntmps17
        go_wp2
        go_ret
        exact ⟨rfl, unhide SI, unhide BI⟩
      · have kg : (5 : Int) < k := by omega
        go_enter Tryd.func17, Tryd.ntmps17
        go_wp2
        go_ret
        exact ⟨rfl, unhide SI, unhide BI⟩

mutual
theorem look_all : ∀ T : Tree, LookC T
  | .mk k y c x t ks => look_of k y c x t ks (fun u h => look_alls ks u h)
theorem look_alls : ∀ (ks : List Tree) (u : Tree), u ∈ ks → LookC u
  | [], u, h => by cases h
  | v :: vs, u, h => by
    by_cases e : u = v
    · rw [e]; exact look_all v
    · exact look_alls vs u ((List.mem_cons.1 h).resolve_left e)
end

set_option maxHeartbeats 1000000 in
theorem dwrong_any (T : Tree) (v : Array Value) (w : World) (hM : Mem w.heap.size w T v) :
    Calls Tryd.prog 7 #[.agg v] w fun e w' => e = .returned (.int .i64 (wrongF T 0 1).1) ∧ Below w.heap.size w w' := by
  have HC := hide (fun wx (hb : Below w.heap.size w wx) (p : Nat) (hp : w.heap.size ≤ p) (hS : St wx p 0) => look_all T w.heap.size wx v p 0 1 (Mem.below hb hM) hp hS (by omega) (by omega) (by omega))
  cases T with
  | mk k y c x t ks =>
  rw [Mem] at hM
  obtain ⟨ht, hk, a, cap, rfl, hks⟩ := hM
  clear hks ht hk
  go_enter Tryd.func7, Tryd.ntmps7
  go_wp2_with fail
  refine (unhide HC _ (((Below.refl _ _).alloc (Nat.le_refl _) _).alloc (by simp) _) _ (by simp) ⟨by simp [go_sem], by simp [go_sem], by simp⟩).mono ?_
  rintro e w2 ⟨rfl, _, hb⟩
  have hw := (((Below.refl w.heap.size w).alloc (Nat.le_refl _) _).alloc (by simp) _).trans hb
  clear hb
  go_wp2
  go_ret
  exact ⟨rfl, hw⟩
end Go.Proofs.YtbdgngfpofohpaaDoor

/- Walks: what the document tells is wrong with a value in a test. -/
namespace Go.Proofs.YtbdgngfpofohpaaDoor
open Go.RowKit

theorem abs_pow (c : Int) (k : Nat) : (((c * (10 : Int) ^ k).natAbs : Nat) : Int) = max c (-c) * (10 : Int) ^ k := by
  have hp : (0 : Int) < (10 : Int) ^ k := Int.pow_pos (by decide)
  rw [Int.natAbs_mul, Int.natCast_mul]
  have e1 : ((c.natAbs : Nat) : Int) = max c (-c) := by omega
  have e2 : ((((10 : Int) ^ k).natAbs : Nat) : Int) = (10 : Int) ^ k := by omega
  rw [e1, e2]
theorem rv_cmp {c x : Int} (a3 : -40 ≤ x) : icmp ((((c * (10 : Int) ^ x.toNat).natAbs : Nat) : Int) * (10 : Int) ^ (-(9 : Int)).toNat) ((10 : Int) ^ (9 : Int).toNat * (10 : Int) ^ (-x).toNat) = Dm.sgn (Dm.V (max c (-c)) x - Dm.V 1 9) := by
  rw [abs_pow, ← cmp_same a3 (by decide), Int.one_mul]

set_option maxHeartbeats 4000000 in
theorem rvalue_any (T : Tree) (v : Array Value) (w : World) (hM : Mem w.heap.size w T v) :
    Calls Tryd.prog 25 #[.agg v] w fun e w' => e = .returned (.int .i64 (valW T)) ∧ Below w.heap.size w w' := by
  have LW := hide (fun wx (hb : Below w.heap.size w wx) => dwrong_any T v wx (Mem.mono hb.size (Mem.below hb hM)))
  obtain ⟨k, y, c, x, t, ks⟩ := T
  rw [Mem] at hM
  obtain ⟨_, _, a, cap, rfl, _⟩ := hM
  have HV := hide (show valW (.mk k y c x t ks) = _ from by rw [valW])
  have HN : Hid (k = 3 → (wrongF (.mk k y c x t ks) 0 1).1 = 0 → Dm.wrongN c x = 0) := hide fun e h => by subst e; exact wf_num0 h
  generalize (wrongF (.mk k y c x t ks) 0 1).1 = W at *
  generalize valW (.mk k y c x t ks) = R at *
  go_enter Tryd.func25, Tryd.ntmps25
  go_wp2_with fail
  refine (unhide LW _ (vbelow_new _ _)).mono ?_
  rintro e w1 ⟨rfl, hb⟩
  have HB := hide (bv (vbelow_new w _) hb)
  have BX := Box.new.keep hb (by simp)
  have HX := hide BX
  obtain ⟨q0, q1, q2, q3, q4, q5⟩ := BX.tell
  clear hb BX LW
  by_cases h0 : W = 0
  · subst h0
    by_cases k5 : k = 5
    · subst k5
      have HE : Hid (R = 8) := hide (by rw [unhide HV, if_pos rfl, if_pos rfl])
      go_wp2
      go_ret
      rw [unhide HE]
      exact ⟨rfl, unhide HB⟩
    by_cases k3 : k = 3
    · subst k3
      have wn := unhide HN rfl rfl
      obtain ⟨p1, p2, p3, p4, _⟩ := Dm.wrong_ok wn
      have lc : Ln c ≤ 2 := Ln_small (by omega)
      have t1 := Ln_ten x.toNat
      have t3 := Ln_ten (-x).toNat
      have t5 := Ln_mul c ((10 : Int) ^ x.toNat)
      have lN : Ln (c * (10 : Int) ^ x.toNat) ≤ 20000 := by omega
      have lD : Ln ((10 : Int) ^ (-x).toNat) ≤ 20000 := by omega
      have P3 := hide p3
      have HR : Hid (R = if inR c x then 0 else 3) := hide (by
        rw [unhide HV, if_pos rfl, if_neg (by decide)]
        by_cases hr : inR c x
        · rw [if_neg (fun h => h.2 hr), if_pos hr]
        · rw [if_pos ⟨rfl, hr⟩, if_neg hr])
      have RD := hide (ratd_any c x w1 (by omega) (by omega) (by omega) (by omega))
      have LN := hide lN
      have LD := hide lD
      clear t1 t3 t5 lN lD lc p1 p2 p3 p4 wn HV
      go_wp2_with fail
      refine (unhide RD).mono ?_
      rintro e w2 ⟨rfl, r2, hb2⟩
      have s2 := hb2.size
      have RB := hide (rabs_any (w1.heap.size + 1) (w1.heap.size + 1) _ _ w2 r2.place r2 (Int.pow_pos (by decide)) (unhide LN) (unhide LD))
      have HB2 := hide hb2
      clear hb2 r2 RD
      go_wp2_with fail
      refine (unhide RB).mono ?_
      rintro e w3 ⟨rfl, r3, hk⟩
      have hb3 : Below w1.heap.size w1 w3 := (unhide HB2).trans (hk.below (by omega) s2)
      have HB3 := hide (bv (unhide HB) hb3)
      obtain ⟨z0, z1, z2, z3, z4, z5⟩ := ((unhide HX).keep hb3 (unhide HX).low).tell
      have R3 := hide r3
      clear hk hb3 r3 RB q0 q1 q2 q3 q4 q5
      by_cases hx : x < -6
      · have HE : Hid (R = 3) := hide (by rw [unhide HR, if_neg (fun h => by unfold inR at h; omega)])
        go_wp2
        go_ret
        rw [unhide HE]
        exact ⟨rfl, unhide HB3⟩
      · have R9 := hide (rat2_any 9 w3 (by decide) (by decide))
        go_wp2_with fail
        refine (unhide R9).mono ?_
        rintro e w4 ⟨rfl, r4, hb4⟩
        have r3 := (unhide R3).below hb4
        have CC := hide (rcmp_any (w1.heap.size + 1) w3.heap.size _ _ _ _ w4 r3 r4 (Int.pow_pos (by decide)) (Int.pow_pos (by decide)) (Nat.le_trans (Ln_mono (by omega)) (unhide LN)) (unhide LD) (Nat.le_trans (Ln_ten _) (by decide)) (Nat.le_trans (Ln_ten _) (by decide)))
        rw [rv_cmp (unhide P3)] at CC
        have HB4 := hide (bv (unhide HB3) hb4)
        have hin : inR c x ↔ Dm.sgn (Dm.V (max c (-c)) x - Dm.V 1 9) ≤ 0 := by
          unfold inR
          omega
        have HR' : Hid (R = if Dm.sgn (Dm.V (max c (-c)) x - Dm.V 1 9) ≤ 0 then 0 else 3) := hide (by
          rw [unhide HR]
          by_cases hr : inR c x
          · rw [if_pos hr, if_pos (hin.1 hr)]
          · rw [if_neg hr, if_neg (fun q => hr (hin.2 q))])
        clear hin r3 r4 hb4 R9 R3
        generalize Dm.sgn (Dm.V (max c (-c)) x - Dm.V 1 9) = g at *
        go_wp2_with fail
        refine (unhide CC).mono ?_
        rintro e w5 ⟨rfl, hb5⟩
        have HB5 := hide (bv (unhide HB4) hb5)
        clear hb5 CC
        by_cases hg : g ≤ 0
        · have HE : Hid (R = 0) := hide (by rw [unhide HR', if_pos hg])
          have hg' : ¬ 0 < g := by omega
          go_wp2
          go_ret
          rw [unhide HE]
          exact ⟨rfl, unhide HB5⟩
        · have HE : Hid (R = 3) := hide (by rw [unhide HR', if_neg hg])
          have hg' : 0 < g := by omega
          go_wp2
          go_ret
          rw [unhide HE]
          exact ⟨rfl, unhide HB5⟩
    · have HE : Hid (R = 0) := hide (by rw [unhide HV, if_pos rfl, if_neg k5, if_neg (fun h => k3 h.1)])
      have k5' : (k == 5) = false := by simpa using k5
      have k3' : (k == 3) = false := by simpa using k3
      go_wp2
      go_ret
      rw [unhide HE]
      exact ⟨rfl, unhide HB⟩
  · have HE : Hid (R = W) := hide (by rw [unhide HV, if_neg h0])
    have h0' : (W != 0) = true := by simp [h0]
    clear q0 q1 q2 q3 q4 q5
    go_wp2
    go_ret
    rw [unhide HE]
    exact ⟨rfl, unhide HB⟩
end Go.Proofs.YtbdgngfpofohpaaDoor
