/- Walks: the document's answer: Fit. -/
import Derived.Test.YtibkemolmpcdcaaG10
namespace Go.Proofs.Ytibkemolmpcdcaa
open Go.RowKit

theorem rat2_at (e : Int) (w : World) (k : Nat) (hk : w.heap.size = k) (h1 : -200 ≤ e) (h2 : e ≤ 200) :
    Calls Try.prog 26 #[.int .i64 e] w fun r w' => r = .returned (.pointer (some ⟨k, 0, none⟩)) ∧ RV w' k ((10 : Int) ^ e.toNat) ((10 : Int) ^ (-e).toNat) ∧ Below w.heap.size w w' := by
  subst hk
  exact rat2_any e w h1 h2

/-- what is nearest to N over D in units of 10^e -/
def gq (N D : Int) (e : Int) : Int := Dm.nr (N * (10 : Int) ^ (-e).toNat) (D * (10 : Int) ^ e.toNat)
def fitT (N D : Int) : Int × Int × Int := Dm.fitF (gq N D) 121 (-40)
def toldT (t : Int × Int × Int) : Ending := .returned (.tuple #[.agg #[.int .i64 t.1, .int .i64 t.2.1], .int .i64 t.2.2])
theorem fit_hit {N D e0 q : Int} (hF : fitT N D = Dm.fitF (gq N D) (81 - e0).toNat e0) (hq : gq N D e0 = q) (h1 : e0 ≤ 80) (hl : q.natAbs ≤ 999999999999999999) : fitT N D = (Dm.fC q e0, Dm.fE q e0, Dm.fR q e0) := by
  rw [hF, show (81 - e0).toNat = (80 - e0).toNat + 1 by omega, Dm.fitF_hit _ _ _ (by rw [hq]; exact hl), hq]
theorem fit_next {N D e0 q : Int} (hF : fitT N D = Dm.fitF (gq N D) (81 - e0).toNat e0) (hq : gq N D e0 = q) (h1 : e0 ≤ 80) (hl : ¬ q.natAbs ≤ 999999999999999999) : fitT N D = Dm.fitF (gq N D) (81 - (e0 + 1)).toNat (e0 + 1) := by
  rw [hF, show (81 - e0).toNat = (81 - (e0 + 1)).toNat + 1 by omega, Dm.fitF, if_neg (by rw [hq]; exact hl)]
theorem fit_end {N D e0 : Int} (hF : fitT N D = Dm.fitF (gq N D) (81 - e0).toNat e0) (h1 : ¬ e0 ≤ 80) : fitT N D = (0, 0, 4) := by
  rw [hF, show (81 - e0).toNat = 0 by omega, Dm.fitF]
theorem sgnZ_ne {x : Int} (h : x ≠ 0) : (sgnZ x == 0) = false := by
  rcases Int.lt_trichotomy x 0 with g | g | g
  · unfold sgnZ; rw [if_pos g]; rfl
  · exact absurd g h
  · unfold sgnZ; rw [if_neg (by omega), if_neg h]; rfl
theorem tens_bd {q q1 : Int} {k : Nat} (h : q = Dm.tens q1 k) (h1 : q1 ≠ 0) (hl : q.natAbs ≤ 999999999999999999) : k ≤ 17 ∧ q1.natAbs ≤ 999999999999999999 := by
  have e : q.natAbs = q1.natAbs * 10 ^ k := by rw [h, Dm.tens_eq, Int.natAbs_mul, Int.natAbs_pow]; rfl
  have p := Dm.p10_pos k
  have a : 1 * 10 ^ k ≤ q1.natAbs * 10 ^ k := Nat.mul_le_mul_right _ (by omega)
  have b : q1.natAbs * 1 ≤ q1.natAbs * 10 ^ k := Nat.mul_le_mul_left _ (by omega)
  refine ⟨?_, by omega⟩
  rcases Nat.lt_or_ge k 18 with g | g
  · omega
  · have : 10 ^ 18 ≤ 10 ^ k := Dm.p10_le g
    omega
theorem tens_next {q q1 : Int} {k : Nat} (h : q = Dm.tens q1 k) (hz : q1 % 10 = 0) : q = Dm.tens (q1.tdiv 10) (k + 1) ∧ (q1 ≠ 0 → q1.tdiv 10 ≠ 0) := by
  have e : q1.tdiv 10 * 10 = q1 := Int.tdiv_mul_cancel (Int.dvd_of_emod_eq_zero hz)
  refine ⟨?_, fun h1 h2 => h1 (by rw [← e, h2]; rfl)⟩
  rw [h, Dm.tens_eq, Dm.tens_eq, Int.pow_succ, ← Int.mul_assoc, Int.mul_right_comm, e]
theorem tens_last {q q1 : Int} {k : Nat} (h : q = Dm.tens q1 k) (hz : ¬ q1 % 10 = 0) (hl : q.natAbs ≤ 999999999999999999) : Dm.tz q = k ∧ Dm.tc q = q1 := by
  refine Dm.tz_at h (fun g => hz ?_) (by omega)
  have := Int.dvd_of_tmod_eq_zero g
  exact Int.emod_eq_zero_of_dvd this

set_option maxRecDepth 100000 in
set_option maxHeartbeats 8000000 in
theorem fit_any (p : Nat) (N D : Int) (w : World) (hr : RV w p N D) (hD : 0 < D) (lN : Ln N ≤ 3000) (lD : Ln D ≤ 3000) :
    Calls Try.prog 36 #[.pointer (some ⟨p, 0, none⟩)] w fun e w' => e = toldT (fitT N D) ∧ Below w.heap.size w w' := by
  have lp := hr.place.low
  obtain ⟨wA, hwA⟩ : ∃ wA, wA = w.alloc (.cells #[.int .i64 0, .int .i64 0] 23) := ⟨_, rfl⟩
  have NA : Below w.heap.size w wA := by rw [hwA]; exact below_new _ _
  have sA : wA.heap.size = w.heap.size + 1 := by rw [hwA]; simp
  have cA0 : wA.cell? ⟨w.heap.size, 0, none⟩ = some (.int .i64 0) := by rw [hwA]; simp [go_sem]
  have cA1 : wA.cell? ⟨w.heap.size, 1, none⟩ = some (.int .i64 0) := by rw [hwA]; simp [go_sem]
  have fA0 : wA.frozen? ⟨w.heap.size, 0, none⟩ = false := by rw [hwA]; simp [go_sem]
  have fA1 : wA.frozen? ⟨w.heap.size, 1, none⟩ = false := by rw [hwA]; simp [go_sem]
  have HR := hide (hr.below NA)
  have HNA := hide NA
  have HD := hide hD
  clear hr hD NA
  go_enter Try.func36, Try.ntmps36
  go_wp2_with fail
  go_loopw [4] (fun i wr => ∃ e0 : Int, i = .int .i64 e0 ∧ -40 ≤ e0 ∧ e0 ≤ 81 ∧ Hid (fitT N D = Dm.fitF (gq N D) (81 - e0).toNat e0) ∧ Hid (Below wA.heap.size wA wr)) (fun i _ => (81 - intOf i).toNat)
  case atStart => exact ⟨-40, rfl, by omega, by omega, hide rfl, hide (by rw [hwA]; exact Below.refl _ _)⟩
  case round =>
    obtain ⟨e0, rfl, l1, l2, HF, HB⟩ := hrel
    clear hwA
    have sr := (unhide HB).size
    by_cases h80 : e0 ≤ 80
    · have hr1 := (unhide HR).below (unhide HB)
      have N1 := below_new wr (.cells #[.bool false, .slice none 0 0, .bool false, .slice none 0 0] 43)
      have R2 := hide (rat2_at e0 (wr.alloc (.cells #[.bool false, .slice none 0 0, .bool false, .slice none 0 0] 43)) (wr.heap.size + 1) (by simp) (by omega) (by omega))
      have HR1 := hide (hr1.below N1)
      have HB1 := hide (below_step (unhide HB) N1)
      have HZ1 := hide (ZA.newR wr)
      have m1 := Ln_ten e0.toNat
      have m2 := Ln_ten (-e0).toNat
      have m3 := Ln_mul N ((10 : Int) ^ (-e0).toNat)
      have m4 := Ln_mul D ((10 : Int) ^ e0.toNat)
      have mp : Hid (0 < D * (10 : Int) ^ e0.toNat) := hide (Int.mul_pos (unhide HD) (Int.pow_pos (by decide)))
      clear hr1 N1
      go_wp2_with fail
      refine (unhide R2).mono ?_
      rintro e w1 ⟨rfl, r1, hb1⟩
      have QU := hide (rquo_any wr.heap.size p (wr.heap.size + 1) N D ((10 : Int) ^ e0.toNat) ((10 : Int) ^ (-e0).toNat) w1 ((unhide HZ1).below hb1) ((unhide HR1).below hb1) r1 (by have := unhide HD; omega) (pow_ne _) (by omega) (by omega) (by omega) (by omega) (pow_ne _))
      have HB2 := hide (below_step (unhide HB1) hb1)
      clear r1 hb1 R2 HR1 HB1 HZ1
      go_wp2_with fail
      refine (unhide QU).mono ?_
      rintro e w2 ⟨rfl, r2, k2⟩
      have NE := hide (nearest_any wr.heap.size (N * (10 : Int) ^ (-e0).toNat) (D * (10 : Int) ^ e0.toNat) w2 r2 (unhide mp) (by omega) (by omega))
      have HB3 := hide ((unhide HB2).trans (k2.below (by omega) (unhide HB2).size))
      have s3 := (unhide HB3).size
      clear r2 k2 QU HB2
      go_wp2_with fail
      refine (unhide NE).mono ?_
      rintro e w3 ⟨rfl, i3, hb3⟩
      obtain ⟨q, hq⟩ : ∃ q, gq N D e0 = q := ⟨_, rfl⟩
      replace i3 : IA w3 w2.heap.size 0 q := by rw [← hq]; exact i3
      have NI := hide (newInt_any 999999999999999999 w3 (by omega) (by omega))
      have HI3 := hide i3
      have HB4 := hide (below_step (unhide HB3) hb3)
      have HQ := hide hq
      clear i3 hb3 NE HB3 hq mp m1 m2 m3 m4
      go_wp2_with fail
      refine (unhide NI).mono ?_
      rintro e w4 ⟨rfl, i4, hb4⟩
      have CA := hide (icmpAbs_any w2.heap.size 0 w3.heap.size 0 q 999999999999999999 w4 ((unhide HI3).below hb4) i4)
      have hcc : (Bg.cmpN q.natAbs (999999999999999999 : Int).natAbs > 0) ↔ ¬ q.natAbs ≤ 999999999999999999 := by
        rcases Nat.lt_trichotomy q.natAbs 999999999999999999 with h | h | h
        · rw [Bg.cmpN_lt (by show q.natAbs < 999999999999999999; exact h)]; omega
        · rw [Bg.cmpN_eq (by show q.natAbs = 999999999999999999; exact h)]; omega
        · rw [Bg.cmpN_gt (by show 999999999999999999 < q.natAbs; exact h)]; omega
      obtain ⟨c, hc⟩ : ∃ c, Bg.cmpN q.natAbs (999999999999999999 : Int).natAbs = c := ⟨_, rfl⟩
      rw [hc] at CA hcc
      have HI4 := hide ((unhide HI3).below hb4)
      have HB5 := hide (below_step (unhide HB4) hb4)
      clear hc i4 hb4 NI HI3 HB4
      go_wp2_with fail
      refine (unhide CA).mono ?_
      rintro e w5 ⟨rfl, hb5⟩
      have HI5 := hide ((unhide HI4).below hb5)
      have HB6 := hide (below_step (unhide HB5) hb5)
      clear hb5 CA HI4 HB5
      by_cases hl : q.natAbs ≤ 999999999999999999
      · have c0 : ¬ 0 < c := fun h => hcc.1 h hl
        have SG := hide (isign_any w2.heap.size 0 q w5 (unhide HI5))
        have HL := hide hl
        clear hcc hl
        go_wp2_with fail
        refine (unhide SG).mono ?_
        rintro e w5' ⟨rfl, rfl⟩
        by_cases hq0 : q = 0
        · subst hq0
          have HE : Hid (fitT N D = (0, 0, 0)) := hide (by rw [fit_hit (unhide HF) (unhide HQ) h80 (by decide)]; simp [Dm.fC, Dm.fE, Dm.fR])
          rw [show sgnZ 0 = 0 from rfl]
          have hb0 : Hid (Below w.heap.size w w5') := hide ((unhide HNA).trans ((unhide HB6).mono (by omega)))
          have c0 := ((unhide HB6).cell (p := ⟨w.heap.size, 0, none⟩) (by show w.heap.size < wA.heap.size; omega)).trans cA0
          have c1 := ((unhide HB6).cell (p := ⟨w.heap.size, 1, none⟩) (by show w.heap.size < wA.heap.size; omega)).trans cA1
          have f0 := ((unhide HB6).frozen (p := ⟨w.heap.size, 0, none⟩) (by show w.heap.size < wA.heap.size; omega)).trans fA0
          have f1 := ((unhide HB6).frozen (p := ⟨w.heap.size, 1, none⟩) (by show w.heap.size < wA.heap.size; omega)).trans fA1
          clear cA0 cA1 fA0 fA1
          go_wp2
          refine bodyPost_ret (v := .tuple #[.agg #[.int .i64 0, .int .i64 0], .int .i64 0]) (by simp [results, Try.results36, go_sem, c0, c1]) rfl ?_
          rw [unhide HE]
          exact ⟨rfl, ((unhide hb0).setCell (Nat.le_refl _) _).setCell (Nat.le_refl _) _⟩
        · have gs : (sgnZ q == 0) = false := sgnZ_ne hq0
          have HQ0 := hide hq0
          clear hq0 SG
          go_wp2_with fail
          go_loopw [4] (fun i wr2 => ∃ (k : Nat) (q1 : Int), i = .int .i64 (e0 + k) ∧ k ≤ 17 ∧ Hid (q = Dm.tens q1 k) ∧ q1 ≠ 0 ∧ Hid (IA wr2 w2.heap.size 0 q1) ∧ Hid (Below wA.heap.size wA wr2)) (fun i _ => (300 - intOf i).toNat)
          case atStart => exact ⟨0, q, by simp, by omega, hide rfl, unhide HQ0, HI5, HB6⟩
          case round =>
            obtain ⟨k, q1, rfl, hk, HT, hq1, HJ, HC⟩ := hrel
            clear HI5 HB6
            have bd := tens_bd (unhide HT) hq1 (unhide HL)
            have sj := (unhide HJ).place.low
            have N6 := below_new wr (.cells #[.bool false, .slice none 0 0] 41)
            have NT := hide (newInt_at 10 (wr.alloc (.cells #[.bool false, .slice none 0 0] 41)) (wr.heap.size + 1) (by simp) (by omega) (by omega))
            have HJ6 := hide ((unhide HJ).below N6)
            have HC6 := hide (below_step (unhide HC) N6)
            have HZ6 := hide (ZA.new wr)
            have s6 := (unhide HC).size
            have lq1 : (Bg.wd q1.natAbs).length ≤ 2 := Bg.wd_len_le 2 _ (by omega)
            clear N6 HJ HC
            go_wp2_with fail
            refine (unhide NT).mono ?_
            rintro e w6 ⟨rfl, i6, hb6⟩
            have MO := hide (imod_any wr.heap.size 0 w2.heap.size 0 (wr.heap.size + 1) 0 q1 10 w6 ((unhide HZ6).below hb6) ((unhide HJ6).below hb6) i6 (by omega) (by omega) (Nat.le_trans (Ln_small (x := 10) (by decide)) (by omega)))
            have HJ7 := hide ((unhide HJ6).below hb6)
            have HC7 := hide (below_step (unhide HC6) hb6)
            have HZ7 := hide ((unhide HZ6).below hb6)
            clear i6 hb6 NT HJ6 HC6 HZ6
            go_wp2_with fail
            refine (unhide MO).mono ?_
            rintro e w7 ⟨rfl, i7, k7⟩
            have SG := hide (isign_any wr.heap.size 0 (q1 % 10) w7 i7)
            have HJ8 := hide ((unhide HJ7).blk k7.blk (unhide HZ7) (by omega))
            have HC8 := hide ((unhide HC7).trans (k7.low (by omega) (by omega) (unhide HC7).size))
            clear i7 k7 MO HJ7 HC7 HZ7
            go_wp2_with fail
            refine (unhide SG).mono ?_
            rintro e w8 ⟨rfl, rfl⟩
            clear SG
            by_cases hz : q1 % 10 = 0
            · have gz : (sgnZ (q1 % 10) == 0) = true := by rw [hz]; rfl
              have HX := hide (tens_next (unhide HT) hz)
              have N9 := hide (newInt_any 10 w8 (by omega) (by omega))
              clear hz
              go_wp2_with fail
              refine (unhide N9).mono ?_
              rintro e w9 ⟨rfl, i9, hb9⟩
              have QO := hide (iquo_any w2.heap.size 0 w2.heap.size 0 w8.heap.size 0 q1 10 w9 ((unhide HJ8).place.below hb9) ((unhide HJ8).below hb9) i9 (by omega) (by omega) (len_small (by decide)))
              have HC9 := hide (below_step (unhide HC8) hb9)
              clear i9 hb9 N9 HJ8 HC8
              go_wp2_with fail
              refine (unhide QO).mono ?_
              rintro e w10 ⟨rfl, i10, ho10⟩
              have HJ10 := hide i10
              have HC10 := hide ((unhide HC9).trans (ho10.below (by omega) (unhide HC9).size))
              clear i10 ho10 QO HC9
              go_wp2
              have bd2 := tens_bd (unhide HX).1 ((unhide HX).2 hq1) (unhide HL)
              refine ⟨⟨k + 1, q1.tdiv 10, by congr 1; omega, bd2.1, hide (unhide HX).1, (unhide HX).2 hq1, HJ10, HC10⟩, ?_⟩
              simp [intOf]; omega
            · have gz : (sgnZ (q1 % 10) == 0) = false := sgnZ_ne hz
              have tl := tens_last (unhide HT) hz (unhide HL)
              have HH := fit_hit (unhide HF) (unhide HQ) h80 (unhide HL)
              have q0 := unhide HQ0
              by_cases h40 : 40 < e0 + (k : Int)
              · have HE : Hid (fitT N D = (0, 0, 4)) := hide (by rw [HH]; unfold Dm.fC Dm.fE Dm.fR; rw [tl.1, if_neg q0, if_neg q0, if_neg q0, if_pos h40, if_pos h40, if_pos h40])
                clear HH tl hz q0
                have hb0 : Hid (Below w.heap.size w w8) := hide ((unhide HNA).trans ((unhide HC8).mono (by omega)))
                have c0 := ((unhide HC8).cell (p := ⟨w.heap.size, 0, none⟩) (by show w.heap.size < wA.heap.size; omega)).trans cA0
                have c1 := ((unhide HC8).cell (p := ⟨w.heap.size, 1, none⟩) (by show w.heap.size < wA.heap.size; omega)).trans cA1
                have f0 := ((unhide HC8).frozen (p := ⟨w.heap.size, 0, none⟩) (by show w.heap.size < wA.heap.size; omega)).trans fA0
                have f1 := ((unhide HC8).frozen (p := ⟨w.heap.size, 1, none⟩) (by show w.heap.size < wA.heap.size; omega)).trans fA1
                clear cA0 cA1 fA0 fA1
                go_wp2
                refine bodyPost_ret (v := .tuple #[.agg #[.int .i64 0, .int .i64 0], .int .i64 4]) (by simp [results, Try.results36, go_sem, c0, c1]) rfl ?_
                rw [unhide HE]
                exact ⟨rfl, ((unhide hb0).setCell (Nat.le_refl _) _).setCell (Nat.le_refl _) _⟩
              · have HE : Hid (fitT N D = (q1, e0 + (k : Int), 0)) := hide (by rw [HH]; unfold Dm.fC Dm.fE Dm.fR; rw [tl.1, tl.2, if_neg q0, if_neg q0, if_neg q0, if_neg h40, if_neg h40, if_neg h40])
                have II := hide (iint64_any w2.heap.size 0 q1 w8 (unhide HJ8) (by omega))
                clear HH tl hz q0
                go_wp2_with fail
                refine (unhide II).mono ?_
                rintro e w9 ⟨rfl, rfl⟩
                clear II
                have hb0 : Hid (Below w.heap.size w w9) := hide ((unhide HNA).trans ((unhide HC8).mono (by omega)))
                have c0 := ((unhide HC8).cell (p := ⟨w.heap.size, 0, none⟩) (by show w.heap.size < wA.heap.size; omega)).trans cA0
                have c1 := ((unhide HC8).cell (p := ⟨w.heap.size, 1, none⟩) (by show w.heap.size < wA.heap.size; omega)).trans cA1
                have f0 := ((unhide HC8).frozen (p := ⟨w.heap.size, 0, none⟩) (by show w.heap.size < wA.heap.size; omega)).trans fA0
                have f1 := ((unhide HC8).frozen (p := ⟨w.heap.size, 1, none⟩) (by show w.heap.size < wA.heap.size; omega)).trans fA1
                clear cA0 cA1 fA0 fA1
                go_wp2
                refine bodyPost_ret (v := .tuple #[.agg #[.int .i64 q1, .int .i64 (e0 + (k : Int))], .int .i64 0]) (by simp [results, Try.results36, go_sem, c0, c1]) rfl ?_
                rw [unhide HE]
                exact ⟨rfl, ((unhide hb0).setCell (Nat.le_refl _) _).setCell (Nat.le_refl _) _⟩
      · have c0 : 0 < c := hcc.2 hl
        have HN := hide (fit_next (unhide HF) (unhide HQ) h80 hl)
        clear hcc hl
        go_wp2
        refine ⟨⟨e0 + 1, rfl, by omega, by omega, HN, HB6⟩, ?_⟩
        simp [intOf]; omega
    · have HE := hide (fit_end (unhide HF) h80)
      have hb0 : Hid (Below w.heap.size w wr) := hide ((unhide HNA).trans ((unhide HB).mono (by omega)))
      have c0 := ((unhide HB).cell (p := ⟨w.heap.size, 0, none⟩) (by show w.heap.size < wA.heap.size; omega)).trans cA0
      have c1 := ((unhide HB).cell (p := ⟨w.heap.size, 1, none⟩) (by show w.heap.size < wA.heap.size; omega)).trans cA1
      have f0 := ((unhide HB).frozen (p := ⟨w.heap.size, 0, none⟩) (by show w.heap.size < wA.heap.size; omega)).trans fA0
      have f1 := ((unhide HB).frozen (p := ⟨w.heap.size, 1, none⟩) (by show w.heap.size < wA.heap.size; omega)).trans fA1
      clear cA0 cA1 fA0 fA1
      go_wp2
      refine bodyPost_ret (v := .tuple #[.agg #[.int .i64 0, .int .i64 0], .int .i64 4]) (by simp [results, Try.results36, go_sem, c0, c1]) rfl ?_
      rw [unhide HE]
      exact ⟨rfl, ((unhide hb0).setCell (Nat.le_refl _) _).setCell (Nat.le_refl _) _⟩
end Go.Proofs.Ytibkemolmpcdcaa

/- Plain: what Fit tells of an exact number, and of a quotient, is what dec tells. -/
namespace Go.Proofs.Ytibkemolmpcdcaa

theorem gq_sg (b : Bool) (A B : Nat) (hB : 0 < B) (e : Int) : gq (Dm.sg b A) (B : Int) e = Dm.sg b (Dm.rnd (A * 10 ^ (-e).toNat) (B * 10 ^ e.toNat) false) := by
  unfold gq
  have e1 : Dm.sg b A * (10 : Int) ^ (-e).toNat = Dm.sg b (A * 10 ^ (-e).toNat) := by
    unfold Dm.sg
    cases b
    · simp
    · simp [Int.neg_mul]
  have e2 : (B : Int) * (10 : Int) ^ e.toNat = ((B * 10 ^ e.toNat : Nat) : Int) := by simp
  rw [e1, e2, Dm.nr_sg b _ _ (Nat.mul_pos hB (Dm.p10_pos _))]
theorem fitT_sg (b : Bool) (A B : Nat) (hB : 0 < B) : fitT (Dm.sg b A) (B : Int) = Dm.fitF (fun e => Dm.sg b (Dm.rnd (A * 10 ^ (-e).toNat) (B * 10 ^ e.toNat) false)) 121 (-40) := by
  unfold fitT
  congr 1
  exact funext fun e => gq_sg b A B hB e
theorem p10_add (a b : Nat) : (10 : Nat) ^ a * 10 ^ b = 10 ^ (a + b) := (Nat.pow_add 10 a b).symm
/-- an exact value, in units of 10^e -/
theorem rnd_sc {A B S : Nat} {x e : Int} (hB : 0 < B) (h : A * 10 ^ (-x).toNat = S * 10 ^ x.toNat * B) : Dm.rnd (A * 10 ^ (-e).toNat) (B * 10 ^ e.toNat) false = Dm.sc S (x - e) false := by
  have pB : 0 < B * 10 ^ e.toNat := Nat.mul_pos hB (Dm.p10_pos _)
  have one : ∀ M : Nat, Dm.rnd M 1 false = M := fun M => by
    have := Dm.rnd_exact M 0 false rfl
    simpa using this
  unfold Dm.sc
  split
  · rename_i hs
    rw [← one (S * 10 ^ (x - e).toNat)]
    refine Dm.rnd_ratio pB (by omega) ?_
    apply Nat.eq_of_mul_eq_mul_right (Dm.p10_pos (-x).toNat)
    calc A * 10 ^ (-e).toNat * 1 * 10 ^ (-x).toNat = (A * 10 ^ (-x).toNat) * 10 ^ (-e).toNat := by grind
      _ = S * B * 10 ^ (x.toNat + (-e).toNat) := by rw [h, Nat.pow_add]; grind
      _ = S * B * 10 ^ ((x - e).toNat + e.toNat + (-x).toNat) := by congr 2; omega
      _ = S * 10 ^ (x - e).toNat * (B * 10 ^ e.toNat) * 10 ^ (-x).toNat := by rw [Nat.pow_add, Nat.pow_add]; grind
  · rename_i hs
    refine Dm.rnd_ratio pB (Dm.p10_pos _) ?_
    apply Nat.eq_of_mul_eq_mul_right (Dm.p10_pos (-x).toNat)
    calc A * 10 ^ (-e).toNat * 10 ^ (-(x - e)).toNat * 10 ^ (-x).toNat = (A * 10 ^ (-x).toNat) * 10 ^ (-e).toNat * 10 ^ (-(x - e)).toNat := by grind
      _ = S * B * 10 ^ (x.toNat + (-e).toNat + (-(x - e)).toNat) := by rw [h, Nat.pow_add, Nat.pow_add]; grind
      _ = S * B * 10 ^ (e.toNat + (-x).toNat) := by congr 2; omega
      _ = S * (B * 10 ^ e.toNat) * 10 ^ (-x).toNat := by rw [Nat.pow_add]; grind
theorem rnd_ge {A B M : Nat} (hB : 0 < B) (h : M * B ≤ A) : M ≤ Dm.rnd A B false := by
  have : M ≤ A / B := (Nat.le_div_iff_mul_le hB).2 h
  unfold Dm.rnd
  split <;> omega
theorem e18 : (1000000000000000000 : Nat) = 10 ^ 18 := by decide
theorem sc_low {S : Nat} {x e : Int} (h1 : 1 ≤ S) (hS : S < 10 ^ 200) (he : -40 ≤ e) (hl : e < Dm.nE S x) : 1000000000000000000 ≤ Dm.sc S (x - e) false := by
  obtain ⟨a, _, c, _⟩ := Dm.nd_spec h1 hS
  have hx : Dm.nE S x = x + Dm.nd S - 18 := by unfold Dm.nE at *; omega
  rw [e18]
  unfold Dm.sc
  split
  · have : 10 ^ (Dm.nd S - 1) * 10 ^ (x - e).toNat ≤ S * 10 ^ (x - e).toNat := Nat.mul_le_mul_right _ c
    rw [p10_add] at this
    exact Nat.le_trans (Dm.p10_le (by omega)) this
  · refine rnd_ge (Dm.p10_pos _) ?_
    rw [p10_add]
    exact Nat.le_trans (Dm.p10_le (by omega)) c
theorem sg_self (N : Int) : Dm.sg (decide (N < 0)) N.natAbs = N := by
  unfold Dm.sg
  by_cases h : N < 0
  · simp [h]; omega
  · simp [h]; omega
/-- what is exact -/
theorem fit_exact {N D S x : Int} (hD : 0 < D) (hS : S.natAbs < 10 ^ 200) (h : N * (10 : Int) ^ (-x).toNat = S * (10 : Int) ^ x.toNat * D) :
    fitT N D = (Dm.fC (Dm.nearZ S x false) (Dm.nE S.natAbs x), Dm.fE (Dm.nearZ S x false) (Dm.nE S.natAbs x), Dm.fR (Dm.nearZ S x false) (Dm.nE S.natAbs x)) := by
  have hn : N.natAbs * 10 ^ (-x).toNat = S.natAbs * 10 ^ x.toNat * D.natAbs := by
    have := congrArg Int.natAbs h
    rw [Int.natAbs_mul, Int.natAbs_mul, Int.natAbs_mul, Int.natAbs_pow, Int.natAbs_pow] at this
    exact this
  have hB : 0 < D.natAbs := by omega
  have hsign : decide (N < 0) = decide (S < 0) := by
    have p1 : (0 : Int) < 10 ^ (-x).toNat := Int.pow_pos (by decide)
    have p2 : (0 : Int) < 10 ^ x.toNat := Int.pow_pos (by decide)
    have k1 : (N * (10 : Int) ^ (-x).toNat < 0) ↔ N < 0 := by
      constructor
      · intro g
        rcases Int.lt_or_le N 0 with k | k
        · exact k
        · have := Int.mul_nonneg k (Int.le_of_lt p1); omega
      · intro g; exact Int.mul_neg_of_neg_of_pos g p1
    have k2 : (S * (10 : Int) ^ x.toNat * D < 0) ↔ S < 0 := by
      constructor
      · intro g
        rcases Int.lt_or_le S 0 with k | k
        · exact k
        · have := Int.mul_nonneg (Int.mul_nonneg k (Int.le_of_lt p2)) (Int.le_of_lt hD); omega
      · intro g; exact Int.mul_neg_of_neg_of_pos (Int.mul_neg_of_neg_of_pos g p2) hD
    rw [h] at k1
    exact decide_eq_decide.2 (k1.symm.trans k2)
  have e1 : N = Dm.sg (decide (S < 0)) N.natAbs := by rw [← hsign]; exact (sg_self N).symm
  have e2 : D = ((D.natAbs : Nat) : Int) := by omega
  have e3 := fitT_sg (decide (S < 0)) N.natAbs D.natAbs hB
  rw [← e1, ← e2] at e3
  rw [e3]
  have hf : ∀ e : Int, Dm.rnd (N.natAbs * 10 ^ (-e).toNat) (D.natAbs * 10 ^ e.toNat) false = Dm.sc S.natAbs (x - e) false := fun e => rnd_sc hB hn
  simp only [hf]
  unfold Dm.nearZ
  by_cases h0 : S.natAbs = 0
  · rw [h0, Dm.nQ_zero]
    refine Dm.fit_zero _ (fun e => Dm.sc 0 (x - e) false) ?_ _
    unfold Dm.sc
    split
    · simp
    · unfold Dm.rnd Dm.up
      rw [Nat.zero_mod, Nat.zero_div, if_neg (by simp)]
  · exact Dm.fit_told _ S.natAbs x false (fun e => Dm.sc S.natAbs (x - e) false) (by omega) hS (fun _ _ => rfl) (fun e g1 g2 => sc_low (by omega) hS g1 g2)
/-- what is a quotient -/
theorem fit_quot {A B C1 C2 : Nat} {y : Int} (b : Bool) (hB : 0 < B) (hC : 0 < C2) (l2 : C2 < 1000000000000000000) (l1 : C1 < 1000000000000000000) (h : A * C2 * 10 ^ (-y).toNat = C1 * 10 ^ y.toNat * B) :
    fitT (Dm.sg b A) (B : Int) = (Dm.fC (Dm.sg b (Dm.nQ (C1 * 10 ^ 40 / C2) (y - 40) (decide (C1 * 10 ^ 40 % C2 ≠ 0)))) (Dm.nE (C1 * 10 ^ 40 / C2) (y - 40)), Dm.fE (Dm.sg b (Dm.nQ (C1 * 10 ^ 40 / C2) (y - 40) (decide (C1 * 10 ^ 40 % C2 ≠ 0)))) (Dm.nE (C1 * 10 ^ 40 / C2) (y - 40)), Dm.fR (Dm.sg b (Dm.nQ (C1 * 10 ^ 40 / C2) (y - 40) (decide (C1 * 10 ^ 40 % C2 ≠ 0)))) (Dm.nE (C1 * 10 ^ 40 / C2) (y - 40))) := by
  rw [fitT_sg b A B hB]
  by_cases h0 : C1 = 0
  · subst h0
    have hA : A = 0 := by
      rw [Nat.zero_mul, Nat.zero_mul] at h
      rcases Nat.mul_eq_zero.1 h with g | g
      · rcases Nat.mul_eq_zero.1 g with k | k
        · exact k
        · omega
      · have := Dm.p10_pos (-y).toNat; omega
    subst hA
    rw [Nat.zero_mul, Nat.zero_div, Nat.zero_mod, show decide ((0 : Nat) ≠ 0) = false from rfl, Dm.nQ_zero]
    refine Dm.fit_zero b (fun e => Dm.rnd (0 * 10 ^ (-e).toNat) (B * 10 ^ e.toNat) false) ?_ _
    unfold Dm.rnd Dm.up
    rw [Nat.zero_mul, Nat.zero_mod, Nat.zero_div, if_neg (by
      have := Nat.mul_pos hB (Dm.p10_pos (-40 : Int).toNat)
      simp only [Nat.mul_zero, decide_eq_true_eq]
      omega)]
  · have hS1 : 10 ^ 22 ≤ C1 * 10 ^ 40 / C2 := by
      rw [Nat.le_div_iff_mul_le hC]
      have : 10 ^ 22 * C2 ≤ 10 ^ 22 * 10 ^ 18 := Nat.mul_le_mul_left _ (by rw [← e18]; omega)
      rw [p10_add] at this
      have k : 1 * 10 ^ 40 ≤ C1 * 10 ^ 40 := Nat.mul_le_mul_right _ (by omega)
      omega
    have hS2 : C1 * 10 ^ 40 / C2 < 10 ^ 200 := by
      refine Nat.lt_of_le_of_lt (Nat.div_le_self _ _) ?_
      have : C1 * 10 ^ 40 < 10 ^ 18 * 10 ^ 40 := Nat.mul_lt_mul_of_pos_right (by rw [← e18]; omega) (Dm.p10_pos 40)
      rw [p10_add] at this
      exact Nat.lt_of_lt_of_le this (Dm.p10_le (by omega))
    have hdiv : C1 * 10 ^ 40 / C2 * C2 ≤ C1 * 10 ^ 40 := Nat.div_mul_le_self _ _
    obtain ⟨S, hS⟩ : ∃ S, C1 * 10 ^ 40 / C2 = S := ⟨_, rfl⟩
    have hS1' : 1 ≤ S := by rw [← hS]; exact Nat.le_trans (Dm.p10_pos 22) hS1
    rw [hS] at hS1 hS2 hdiv ⊢
    obtain ⟨n1, _, n3, n4⟩ := Dm.nd_spec hS1' hS2
    have nd23 : 23 ≤ Dm.nd S := by
      have : 10 ^ 22 < 10 ^ Dm.nd S := Nat.lt_of_le_of_lt hS1 n4
      have := Dm.p10_lt this
      omega
    have hE : y - 40 + Dm.nd S - 18 ≤ Dm.nE S (y - 40) := by unfold Dm.nE; omega
    refine Dm.fit_told b S (y - 40) _ (fun e => Dm.rnd (A * 10 ^ (-e).toNat) (B * 10 ^ e.toNat) false) hS1' hS2 (fun e he => ?_) (fun e g1 g2 => ?_)
    · have hneg : ¬ 0 ≤ y - 40 - e := by omega
      obtain ⟨k, hk⟩ : ∃ k : Nat, (-(y - 40 - e)).toNat = k + 1 := ⟨(-(y - 40 - e)).toNat - 1, by omega⟩
      unfold Dm.sc
      rw [if_neg hneg, hk, ← hS, ← Dm.rnd_rest (C1 * 10 ^ 40) C2 (10 ^ (k + 1)) hC (by rw [Nat.pow_succ]; omega) (Dm.p10_pos _)]
      refine Dm.rnd_ratio (Nat.mul_pos hB (Dm.p10_pos _)) (Nat.mul_pos hC (Dm.p10_pos _)) ?_
      apply Nat.eq_of_mul_eq_mul_right (Dm.p10_pos (-y).toNat)
      calc A * 10 ^ (-e).toNat * (C2 * 10 ^ (k + 1)) * 10 ^ (-y).toNat = (A * C2 * 10 ^ (-y).toNat) * 10 ^ (-e).toNat * 10 ^ (k + 1) := by grind
        _ = C1 * B * 10 ^ (y.toNat + (-e).toNat + (k + 1)) := by rw [h, Nat.pow_add 10 (y.toNat + (-e).toNat), Nat.pow_add]; grind
        _ = C1 * B * 10 ^ (40 + e.toNat + (-y).toNat) := by congr 2; omega
        _ = C1 * 10 ^ 40 * (B * 10 ^ e.toNat) * 10 ^ (-y).toNat := by rw [Nat.pow_add, Nat.pow_add]; grind
    · have hx : Dm.nE S (y - 40) = y - 40 + Dm.nd S - 18 := by unfold Dm.nE at *; omega
      rw [e18]
      refine rnd_ge (Nat.mul_pos hB (Dm.p10_pos _)) ?_
      have pos : 0 < C2 * 10 ^ (-y).toNat * 10 ^ 40 := Nat.mul_pos (Nat.mul_pos hC (Dm.p10_pos _)) (Dm.p10_pos _)
      apply Nat.le_of_mul_le_mul_right _ pos
      have r : A * 10 ^ (-e).toNat * (C2 * 10 ^ (-y).toNat * 10 ^ 40) = (C1 * 10 ^ 40) * B * 10 ^ (y.toNat + (-e).toNat) := by
        calc A * 10 ^ (-e).toNat * (C2 * 10 ^ (-y).toNat * 10 ^ 40) = (A * C2 * 10 ^ (-y).toNat) * 10 ^ (-e).toNat * 10 ^ 40 := by grind
          _ = (C1 * 10 ^ 40) * B * 10 ^ (y.toNat + (-e).toNat) := by rw [h, Nat.pow_add 10 y.toNat]; grind
      have l : 10 ^ 18 * (B * 10 ^ e.toNat) * (C2 * 10 ^ (-y).toNat * 10 ^ 40) = (10 ^ (18 + e.toNat + (-y).toNat + 40) * C2) * B := by
        rw [Nat.pow_add, Nat.pow_add, Nat.pow_add]; grind
      rw [r, l]
      have m1 : 10 ^ (Dm.nd S - 1) * C2 ≤ C1 * 10 ^ 40 := Nat.le_trans (Nat.mul_le_mul_right _ n3) hdiv
      have m2 : 10 ^ (18 + e.toNat + (-y).toNat + 40) ≤ 10 ^ (Dm.nd S - 1 + (y.toNat + (-e).toNat)) := Dm.p10_le (by omega)
      calc 10 ^ (18 + e.toNat + (-y).toNat + 40) * C2 * B ≤ 10 ^ (Dm.nd S - 1 + (y.toNat + (-e).toNat)) * C2 * B := Nat.mul_le_mul_right _ (Nat.mul_le_mul_right _ m2)
        _ = (10 ^ (Dm.nd S - 1) * C2) * B * 10 ^ (y.toNat + (-e).toNat) := by rw [Nat.pow_add]; grind
        _ ≤ (C1 * 10 ^ 40) * B * 10 ^ (y.toNat + (-e).toNat) := Nat.mul_le_mul_right _ (Nat.mul_le_mul_right _ m1)
theorem icmp_sgn (x y : Int) : icmp x y = Dm.sgn (x - y) := by
  unfold icmp Dm.sgn
  rcases Int.lt_trichotomy x y with h | h | h
  · rw [if_pos h, if_pos (by omega)]
  · rw [if_neg (by omega), if_pos h, if_neg (by omega), if_pos (by omega)]
  · rw [if_neg (by omega), if_neg (by omega), if_neg (by omega), if_neg (by omega)]
/-- two numbers compare as their fractions -/
theorem cmp_same {c1 x1 c2 x2 : Int} (a3 : -40 ≤ x1) (b3 : -40 ≤ x2) : icmp (c1 * (10 : Int) ^ x1.toNat * (10 : Int) ^ (-x2).toNat) (c2 * (10 : Int) ^ x2.toNat * (10 : Int) ^ (-x1).toNat) = Dm.sgn (Dm.V c1 x1 - Dm.V c2 x2) := by
  rw [← icmp_sgn]
  unfold Dm.V
  rw [Dm.tens_eq, Dm.tens_eq]
  refine icmp_cross (K := (10 : Int) ^ 40) (M := (10 : Int) ^ ((-x1).toNat + (-x2).toNat)) (Int.pow_pos (by decide)) (Int.pow_pos (by decide)) ?_ ?_
  · rw [Int.mul_assoc c1, ← Int.pow_add, Int.mul_assoc, ← Int.pow_add, Int.mul_assoc, ← Int.pow_add]
    congr 2
    omega
  · rw [Int.mul_assoc c2, ← Int.pow_add, Int.mul_assoc, ← Int.pow_add, Int.mul_assoc, ← Int.pow_add]
    congr 2
    omega
end Go.Proofs.Ytibkemolmpcdcaa

/- Walks: the document's answer: Wrong, Rat (written by gen_br5.py). -/
namespace Go.Proofs.Ytibkemolmpcdcaa
open Go.RowKit

set_option maxHeartbeats 400000 in
theorem rwrong_any (c x : Int) (w : World) :
    Calls Try.prog 14 #[.agg #[.int .i64 c, .int .i64 x]] w fun e w' => e = .returned (.int .i64 (Dm.wrongN c x)) ∧ Below w.heap.size w w' := by
  go_enter Try.func14, Try.ntmps14
  go_wp2
  all_goals
    go_ret
    refine ⟨ret_int ?_, (Below.refl _ _).alloc (Nat.le_refl _) _⟩
    unfold Dm.wrongN
    (repeat' split) <;> first | rfl | (exfalso; omega) | (simp_all; done)

theorem callNewInt (zs : Array Value) (w : World) : Sem.run Try.prog (callFunc 54 zs) w = .ok (.enter 54 zs) w := by simp [go_sem]

theorem callTen (zs : Array Value) (w : World) : Sem.run Try.prog (callFunc 31 zs) w = .ok (.enter 31 zs) w := by simp [go_sem]

theorem newInt_make {B : Nat} (x : Int) (h1 : -9223372036854775808 ≤ x) (h2 : x ≤ 9223372036854775807) (wx : World) : Calls Try.prog 54 #[.int .i64 x] wx fun e w' => ∃ b o, e = .returned (.pointer (some ⟨b, o, none⟩)) ∧ (pI x).is w' b o ∧ (b < B ∨ wx.heap.size ≤ b) ∧ Below wx.heap.size wx w' :=
  (newInt_any x wx h1 h2).mono fun _ _ q => ⟨_, 0, q.1, q.2.1, .inr (Nat.le_refl _), q.2.2⟩

theorem ten_make {B : Nat} (x : Int) (h1 : -200 ≤ x) (h2 : x ≤ 200) (wx : World) : Calls Try.prog 31 #[.int .i64 x] wx fun e w' => ∃ b o, e = .returned (.pointer (some ⟨b, o, none⟩)) ∧ (pI ((10 : Int) ^ x.toNat)).is w' b o ∧ (b < B ∨ wx.heap.size ≤ b) ∧ Below wx.heap.size wx w' :=
  (ten_any x wx h1 h2).mono fun _ _ q => ⟨_, 0, q.1, q.2.1, .inr (Nat.le_refl _), q.2.2⟩

theorem frac_put {b b1 o1 b2 o2 : Nat} {A B N D : Int} {w : World} (hz : ZA w b 2) (h1 : IA w b1 o1 A) (h2 : IA w b2 o2 B) (b0 : B ≠ 0) (la : Ln A ≤ 90000) (lb : Ln B ≤ 90000) (e : A * D = N * B) (l : B.natAbs ≤ D.natAbs := by exact Nat.le_refl _) :
    Calls Try.prog 53 #[.pointer (some ⟨b, 0, none⟩), .pointer (some ⟨b1, o1, none⟩), .pointer (some ⟨b2, o2, none⟩)] w fun e w' => e = .returned (.pointer (some ⟨b, 0, none⟩)) ∧ (pR N D).is w' b 0 ∧ Blk b w w' :=
  (setFrac_any b b1 o1 b2 o2 A B w hz h1 h2 b0 la lb).mono fun _ _ q => ⟨q.1, ⟨rfl, q.2.1.via b0 e l⟩, q.2.2⟩
section
variable {a : Act} {w : World} {d : Option Nat} {t : TypeId} {p : String} {af : Array Edge} {g : Option (Nat × Bool)}
theorem run_fldD1 {x : Operand} {b : Nat} (h : a.eval x = .pointer (some ⟨b, 0, none⟩)) : (execOp a.eval ⟨d, .fieldAddr 23 x 1, t, p, af, g⟩).run Try.prog w = .ok (.value (.pointer (some ⟨b, 1, none⟩))) w := by
  generalize a.eval = E at h ⊢
  simp [go_sem, h]
theorem run_ldI {x : Operand} {ad : Addr} {v : Int} (h : a.eval x = .pointer (some ad)) (hc : w.cell? ad = some (.int .i64 v)) : (execOp a.eval ⟨d, .load 3 x, t, p, af, g⟩).run Try.prog w = .ok (.value (.int .i64 v)) w := by
  generalize a.eval = E at h ⊢
  simp [go_sem, h, hc]
theorem run_ldD {x : Operand} {b : Nat} {u v : Int} (h : a.eval x = .pointer (some ⟨b, 0, none⟩)) (h0 : w.cell? ⟨b, 0, none⟩ = some (.int .i64 u)) (h1 : w.cell? ⟨b, 1, none⟩ = some (.int .i64 v)) : (execOp a.eval ⟨d, .load 23 x, t, p, af, g⟩).run Try.prog w = .ok (.value (.agg #[.int .i64 u, .int .i64 v])) w := by
  generalize a.eval = E at h ⊢
  simp [go_sem, h, h0, h1]
theorem run_negI {x : Operand} {v : Int} (wr : IntKind.i64.wrap (-v) = -v) (h : a.eval x = .int .i64 v) : (execOp a.eval ⟨d, .unOp .neg 3 x, t, p, af, g⟩).run Try.prog w = .ok (.value (.int .i64 (-v))) w := by
  generalize a.eval = E at h ⊢
  simp [go_sem, h, wr]
end

theorem fr28 {a : Act} (hs : a.tmps.size = 28) (hd : a.defers = []) : a = { tmps := #[G a 0, G a 1, G a 2, G a 3, G a 4, G a 5, G a 6, G a 7, G a 8, G a 9, G a 10, G a 11, G a 12, G a 13, G a 14, G a 15, G a 16, G a 17, G a 18, G a 19, G a 20, G a 21, G a 22, G a 23, G a 24, G a 25, G a 26, G a 27], defers := [] } := frame_is hs hd

set_option maxRecDepth 100000 in
set_option maxHeartbeats 4000000 in
theorem ratd_any (c x : Int) (w : World) (c1 : -9223372036854775808 ≤ c) (c2 : c ≤ 9223372036854775807) (h1 : -200 ≤ x) (h2 : x ≤ 200) :
    Calls Try.prog 21 #[.agg #[.int .i64 c, .int .i64 x]] w fun e w' => e = .returned (.pointer (some ⟨w.heap.size + 1, 0, none⟩)) ∧ RV w' (w.heap.size + 1) (c * (10 : Int) ^ x.toNat) ((10 : Int) ^ (-x).toNat) ∧ Below w.heap.size w w' := by
  have lc : Ln c ≤ 2 := Ln_small (by omega)
  have m1 := Ln_ten x.toNat
  have m2 := Ln_ten (-x).toNat
  have wr1 : IntKind.i64.wrap (-x) = -x := by rw [IntKind.wrap_i64]; omega
  have NB := below_new w (.cells #[.int .i64 c, .int .i64 x] 23)
  have NR := below_new (w.alloc (.cells #[.int .i64 c, .int .i64 x] 23)) (.cells #[.bool false, .slice none 0 0, .bool false, .slice none 0 0] 43)
  have z1 : ZA ((w.alloc (.cells #[.int .i64 c, .int .i64 x] 23)).alloc (.cells #[.bool false, .slice none 0 0, .bool false, .slice none 0 0] 43)) (w.heap.size + 1) 2 := by
    have := ZA.newR (w.alloc (.cells #[.int .i64 c, .int .i64 x] 23))
    rwa [show (w.alloc (.cells #[.int .i64 c, .int .i64 x] 23)).heap.size = w.heap.size + 1 by simp] at this
  have cb0 : ((w.alloc (.cells #[.int .i64 c, .int .i64 x] 23)).alloc (.cells #[.bool false, .slice none 0 0, .bool false, .slice none 0 0] 43)).cell? ⟨w.heap.size, 1, none⟩ = some (.int .i64 x) := by simp [go_sem]
  have S1 := hide (rsetInt64_any (w.heap.size + 1) c _ z1 c1 c2)
  have HB := hide (below_step NB NR)
  have HZ := hide z1
  clear NB NR z1
  go_enter Try.func21, Try.ntmps21
  go_wp2_with fail
  refine (unhide S1).mono ?_
  rintro e w1 ⟨rfl, r1, k1⟩
  have ss : w.heap.size + 2 ≤ w1.heap.size := by have := k1.size; simp at this; omega
  have cb1 : w1.cell? ⟨w.heap.size, 1, none⟩ = some (.int .i64 x) := (World.cell?_of_block (w := (w.alloc (.cells #[.int .i64 c, .int .i64 x] 23)).alloc (.cells #[.bool false, .slice none 0 0, .bool false, .slice none 0 0] 43)) (a := ⟨w.heap.size, 1, none⟩) (k1.block w.heap.size (by simp; omega) (by omega))).trans cb0
  have HB1 := hide ((unhide HB).trans (k1.below (by omega) (unhide HB).size))
  have HR1 := hide r1
  have N1 := below_new w1 (.cells #[.bool false, .slice none 0 0, .bool false, .slice none 0 0] 43)
  have T1 := hide (ten_at x (w1.alloc (.cells #[.bool false, .slice none 0 0, .bool false, .slice none 0 0] 43)) (w1.heap.size + 1) (by simp) h1 h2)
  have HR2 := hide (r1.below N1)
  have HB2 := hide (below_step (unhide HB1) N1)
  have HZ2 := hide (ZA.newR w1)
  have cb2 := (N1.cell (p := ⟨w.heap.size, 1, none⟩) (by show w.heap.size < w1.heap.size; omega)).trans cb1
  clear r1 k1 N1 S1 HB HZ cb0
  go_wp2_with fail
  refine (unhide T1).mono ?_
  rintro e w2 ⟨rfl, i2, hb2⟩
  have SI := hide (rsetInt_any w1.heap.size (w1.heap.size + 1) 0 ((10 : Int) ^ x.toNat) w2 ((unhide HZ2).below hb2) i2 (by omega))
  have s2 := hb2.size
  have lw2 : w1.heap.size < w2.heap.size := by simp at s2; omega
  have HR3 := hide ((unhide HR2).below hb2)
  have HB3 := hide (below_step (unhide HB2) hb2)
  have cb2' := (hb2.cell (p := ⟨w.heap.size, 1, none⟩) (by simp; omega)).trans cb2
  have HZ3 := hide ((unhide HZ2).below hb2)
  clear i2 hb2 T1 HR2 HB2 HZ2 cb1 cb2 s2
  go_wp2_with fail
  refine (unhide SI).mono ?_
  rintro e w3 ⟨rfl, r3, k3⟩
  have cb3 : w3.cell? ⟨w.heap.size, 1, none⟩ = some (.int .i64 x) := (World.cell?_of_block (w := w2) (a := ⟨w.heap.size, 1, none⟩) (k3.block w.heap.size (by omega) (by omega))).trans cb2'
  have HR4 := hide ((unhide HR3).kept (Kept.blk' k3 (unhide HZ3) (by omega) (by omega)))
  have HB4 := hide ((unhide HB3).trans (k3.below (by omega) (unhide HB3).size))
  have lb3 : w.heap.size < w3.heap.size := by have := k3.size; omega
  have lb4 : w.heap.size + 1 < w3.heap.size := by have := k3.size; omega
  have HP := hide r3
  clear r3 k3 SI HR3 HB3 HZ3 cb2'
  by_cases hx : x < 0
  · have HEQ : Hid ((1 : Int) * (10 : Int) ^ (-x).toNat = (10 : Int) ^ x.toNat * (10 : Int) ^ (-x).toNat) := hide (by rw [show x.toNat = 0 by omega, Int.pow_zero])
    have L1 : Ln 1 ≤ 2 := Ln_small (by decide)
    clear HP
    go_upto_region 4 with fail
    refine frame_intro (fun a => G a 1 = .pointer (some ⟨w.heap.size, 0, none⟩) ∧ G a 3 = .pointer (some ⟨w.heap.size + 1, 0, none⟩) ∧ a.tmps.size = 28 ∧ a.defers = []) ⟨rfl, rfl, rfl, rfl⟩ ?_
    rintro f0 ⟨s1, s3, hsz, hdf⟩
    refine region_any (I := RP w3 f0 28 [17, 18, 19, 20, 21, 22, 23, 4] 99 (fun _ => True) [.new 0 2, .ptr 1 (pI 1), .lit (.pointer (some ⟨w.heap.size, 1, none⟩)), .lit (.int .i64 x), .lit (.int .i64 (-x)), .ptr 5 (pI ((10 : Int) ^ (-x).toNat)), .ptr 0 (pR ((10 : Int) ^ x.toNat) ((10 : Int) ^ (-x).toNat)), .ptr 0 (pR ((10 : Int) ^ x.toNat) ((10 : Int) ^ (-x).toNat))]) (by kernel_rfl) ?wait ?step ?done ?start
    case wait => exact ⟨(by simp <;> rfl), (by simp <;> rfl), (by simp <;> rfl), (by simp <;> rfl), (by simp <;> rfl), (by simp <;> rfl), (by simp <;> rfl), (by simp <;> rfl), trivial⟩
    case start => exact RP.start hsz hdf ((Below.refl _ _).drew)
    case step =>
      refine ⟨?_, ?_, ?_, ?_, ?_, ?_, ?_, ?_, trivial⟩
      · rintro L fa wx h hcl hL hw2
        exact rp_new h (by decide) rfl rfl rfl (by decide) (by decide) (h.nogi (by decide)) rfl run_newR ZA.newR rfl
      · rintro L fa wx h hcl hL hw2
        exact rp_make h (by decide) rfl rfl rfl (by decide) (by decide) (h.nogi (by decide)) rfl (run_call1 rfl callNewInt) (newInt_make 1 (by omega) (by omega) wx) rfl
      · rintro L fa wx h hcl hL hw2
        exact rp_val h (by decide) rfl rfl rfl (by decide) (by decide) rfl (run_fldD1 (eval_G ((h.keep (s := 1) (by decide)).trans s1))) rfl
      · rintro L fa wx h hcl hL hw2
        exact rp_val h (by decide) rfl rfl rfl (by decide) (by decide) rfl (run_ldI (eval_G (show G fa 19 = .pointer (some ⟨w.heap.size, 1, none⟩) from h.lit (hw2 ⟨2, .data⟩ (by simp) rfl) rfl rfl)) (((h.old (h.nogi (by decide))).cell (p := ⟨w.heap.size, 1, none⟩) lb3).trans cb3)) rfl
      · rintro L fa wx h hcl hL hw2
        exact rp_val h (by decide) rfl rfl rfl (by decide) (by decide) rfl (run_negI wr1 (eval_G (show G fa 20 = .int .i64 x from h.lit (hw2 ⟨3, .data⟩ (by simp) rfl) rfl rfl))) rfl
      · rintro L fa wx h hcl hL hw2
        exact rp_make h (by decide) rfl rfl rfl (by decide) (by decide) (h.nogi (by decide)) rfl (run_call1 (eval_G (show G fa 21 = .int .i64 (-x) from h.lit (hw2 ⟨4, .data⟩ (by simp) rfl) rfl rfl)) callTen) (ten_make (-x) (by omega) (by omega) wx) rfl
      · rintro L fa wx h hcl hL hw2
        obtain ⟨b0, e0, z0, l0⟩ := h.new (h.nogi (by decide)) (hw2 ⟨0, .data⟩ (by simp) rfl) rfl rfl
        obtain ⟨b1, o1, e1, mm1⟩ := h.ptr (h.nogi (by decide)) (hw2 ⟨1, .data⟩ (by simp) rfl) rfl rfl
        obtain ⟨b2, o2, e2, mm2⟩ := h.ptr (h.nogi (by decide)) (hw2 ⟨5, .data⟩ (by simp) rfl) rfl rfl
        exact rp_put h (by decide) rfl rfl rfl (by decide) (by decide) (h.nogi (by decide)) rfl (run_call3 (eval_G e0) (eval_G e1) (eval_G e2) callFrac) (hw2 ⟨0, .data⟩ (by simp) rfl) rfl rfl e0 (frac_put z0 mm1 mm2 (pow_ne _) (by omega) (by omega) (unhide HEQ)) rfl (al_of (bad := [6, 7]) rfl (by
        intro k hk
        simp only [List.mem_cons, List.not_mem_nil, or_false] at hk
        rcases hk with rfl | rfl
        · exact hL
        · exact (Bool.eq_false_iff.2 fun hq => by have hz := (hcl 7 _ rfl hq ⟨6, .data⟩ (by simp) rfl); rw [hL] at hz; cases hz)))
      · rintro L fa wx h hcl hL hw2
        exact rp_copy h (by decide) rfl rfl rfl (by decide) (by decide) (h.nogi (by decide)) rfl (hw2 ⟨6, .data⟩ (by simp) rfl) rfl (run_asg rfl) rfl
    case done =>
      rintro L f1 w4 h hall
      have hno : L 99 = false := h.nogi (by decide)
      obtain ⟨b4, o4, q4, i4⟩ := h.ptr (i := 7) hno (hall 7 (by simp)) rfl rfl
      obtain ⟨rfl, i5⟩ : o4 = 0 ∧ RV w4 b4 ((10 : Int) ^ x.toNat) ((10 : Int) ^ (-x).toNat) := i4
      have q3 := (h.keep (s := 3) (by decide)).trans s3
      have HO := hide (h.old hno)
      have HP4 := hide i5
      have HR5 := hide ((unhide HR4).below (unhide HO))
      have HB5 := hide (below_step (unhide HB4) (unhide HO))
      rw [fr28 h.size h.defs, q3, q4]
      clear h hall q3 q4 i5 hno
      have MU := hide (rmul_any (w.heap.size + 1) (w.heap.size + 1) b4 c 1 ((10 : Int) ^ x.toNat) ((10 : Int) ^ (-x).toNat) w4 (unhide HR5).place (unhide HR5) (unhide HP4) (by omega) (pow_ne _) (by omega) (Nat.le_trans (Ln_small (x := 1) (by decide)) (by omega)) (by omega) (by omega))
      go_wp2_with fail
      refine (unhide MU).mono ?_
      rintro e wz ⟨rfl, rz, kz⟩
      have HRZ := hide rz
      have HBZ := hide ((unhide HB5).trans (kz.below (by omega) (unhide HB5).size))
      clear rz kz
      go_wp2
      go_ret
      exact ⟨rfl, by rw [← Int.one_mul ((10 : Int) ^ (-x).toNat)]; exact unhide HRZ, unhide HBZ⟩
  · have HP4 : Hid (RV w3 w1.heap.size ((10 : Int) ^ x.toNat) ((10 : Int) ^ (-x).toNat)) := hide (by rw [show (-x).toNat = 0 by omega, Int.pow_zero]; exact unhide HP)
    have MU := hide (rmul_any (w.heap.size + 1) (w.heap.size + 1) w1.heap.size c 1 ((10 : Int) ^ x.toNat) ((10 : Int) ^ (-x).toNat) w3 (unhide HR4).place (unhide HR4) (unhide HP4) (by omega) (pow_ne _) (by omega) (Nat.le_trans (Ln_small (x := 1) (by decide)) (by omega)) (by omega) (by omega))
    go_wp2_with fail
    refine (unhide MU).mono ?_
    rintro e wz ⟨rfl, rz, kz⟩
    have HRZ := hide rz
    have HBZ := hide ((unhide HB4).trans (kz.below (by omega) (unhide HB4).size))
    clear rz kz
    go_wp2
    go_ret
    exact ⟨rfl, by rw [← Int.one_mul ((10 : Int) ^ (-x).toNat)]; exact unhide HRZ, unhide HBZ⟩

end Go.Proofs.Ytibkemolmpcdcaa

/- Walks: the document's answer: Cmp (written by gen_br5.py). -/
namespace Go.Proofs.Ytibkemolmpcdcaa
open Go.RowKit

theorem callRatd (zs : Array Value) (w : World) : Sem.run Try.prog (callFunc 21 zs) w = .ok (.enter 21 zs) w := by simp [go_sem]

theorem callRCmp (zs : Array Value) (w : World) : Sem.run Try.prog (callFunc 25 zs) w = .ok (.enter 25 zs) w := by simp [go_sem]

theorem ratd_make {B : Nat} (c x : Int) (c1 : -9223372036854775808 ≤ c) (c2 : c ≤ 9223372036854775807) (h1 : -200 ≤ x) (h2 : x ≤ 200) (wx : World) : Calls Try.prog 21 #[.agg #[.int .i64 c, .int .i64 x]] wx fun e w' => ∃ b o, e = .returned (.pointer (some ⟨b, o, none⟩)) ∧ (pR (c * (10 : Int) ^ x.toNat) ((10 : Int) ^ (-x).toNat)).is w' b o ∧ (b < B ∨ wx.heap.size ≤ b) ∧ Below wx.heap.size wx w' :=
  (ratd_any c x wx c1 c2 h1 h2).mono fun _ _ q => ⟨_, 0, q.1, ⟨rfl, q.2.1⟩, .inr (by omega), q.2.2⟩

theorem rcmp_of {b1 o1 b2 o2 : Nat} {N1 N2 : Int} {k1 k2 : Nat} {w : World} (h1 : (pR N1 ((10 : Int) ^ k1)).is w b1 o1) (h2 : (pR N2 ((10 : Int) ^ k2)).is w b2 o2) (l1 : Ln N1 ≤ 20000) (l2 : Ln ((10 : Int) ^ k1) ≤ 20000) (l3 : Ln N2 ≤ 20000) (l4 : Ln ((10 : Int) ^ k2) ≤ 20000) :
    Calls Try.prog 25 #[.pointer (some ⟨b1, o1, none⟩), .pointer (some ⟨b2, o2, none⟩)] w fun e w' => e = .returned (.int .i64 (icmp (N1 * (10 : Int) ^ k2) (N2 * (10 : Int) ^ k1))) ∧ Below w.heap.size w w' := by
  obtain ⟨rfl, r1⟩ := h1
  obtain ⟨rfl, r2⟩ := h2
  exact rcmp_any b1 b2 N1 _ N2 _ w r1 r2 (Int.pow_pos (by decide)) (Int.pow_pos (by decide)) l1 l2 l3 l4

set_option maxHeartbeats 2000000 in
theorem rcmpd_no (c1 x1 c2 x2 : Int) (w : World) (h : (Dm.wrong2 c1 x1 c2 x2 != 0) = true) :
    Calls Try.prog 12 #[.agg #[.int .i64 c1, .int .i64 x1], .agg #[.int .i64 c2, .int .i64 x2]] w fun e w' => e = .returned (.tuple #[.int .i64 0, .int .i64 (Dm.wrong2 c1 x1 c2 x2)]) ∧ Below w.heap.size w w' := by
  obtain ⟨wB, hwB⟩ : ∃ wB, wB = ((w.alloc (.cells #[.int .i64 c1, .int .i64 x1] 23)).alloc (.cells #[.int .i64 c2, .int .i64 x2] 23)) := ⟨_, rfl⟩
  have NB : Below w.heap.size w wB := by rw [hwB]; exact below_step (below_new _ _) (below_new _ _)
  have sB : wB.heap.size = w.heap.size + 2 := by rw [hwB]; simp
  have p10 : wB.cell? ⟨w.heap.size, 0, none⟩ = some (.int .i64 c1) := by rw [hwB]; simp [go_sem]
  have p11 : wB.cell? ⟨w.heap.size, 1, none⟩ = some (.int .i64 x1) := by rw [hwB]; simp [go_sem]
  have p20 : wB.cell? ⟨w.heap.size + 1, 0, none⟩ = some (.int .i64 c2) := by rw [hwB]; simp [go_sem]
  have p21 : wB.cell? ⟨w.heap.size + 1, 1, none⟩ = some (.int .i64 x2) := by rw [hwB]; simp [go_sem]
  have W1 := hide (rwrong_any c1 x1 ((w.alloc (.cells #[.int .i64 c1, .int .i64 x1] 23)).alloc (.cells #[.int .i64 c2, .int .i64 x2] 23)))
  by_cases h1 : Dm.wrongN c1 x1 = 0
  · rw [Dm.wrong2_ok h1] at h ⊢
    have g1 : (Dm.wrongN c1 x1 != 0) = false := by rw [h1]; rfl
    clear h1
    go_enter Try.func12, Try.ntmps12
    go_wp2_with fail
    refine (unhide W1).mono ?_
    rw [← hwB]
    rintro e w1 ⟨rfl, hb1⟩
    have q10 := (hb1.cell (p := ⟨w.heap.size, 0, none⟩) (by show _ < wB.heap.size; simp only; omega)).trans p10
    have q11 := (hb1.cell (p := ⟨w.heap.size, 1, none⟩) (by show _ < wB.heap.size; simp only; omega)).trans p11
    have q20 := (hb1.cell (p := ⟨w.heap.size + 1, 0, none⟩) (by show _ < wB.heap.size; simp only; omega)).trans p20
    have q21 := (hb1.cell (p := ⟨w.heap.size + 1, 1, none⟩) (by show _ < wB.heap.size; simp only; omega)).trans p21
    have W2 := hide (rwrong_any c2 x2 w1)
    have HB := hide (below_step NB hb1)
    clear hb1 p10 p11 p20 p21
    go_wp2_with fail
    refine (unhide W2).mono ?_
    rintro e w2 ⟨rfl, hb2⟩
    have HB2 := hide (below_step (unhide HB) hb2)
    clear hb2
    go_wp2
    refine bodyPost_ret (v := .tuple #[.int .i64 0, .int .i64 (Dm.wrongN c2 x2)]) (by simp [results, Try.results12, go_sem]) rfl ?_
    exact ⟨rfl, unhide HB2⟩
  · rw [Dm.wrong2_no h1] at h ⊢
    clear h1
    go_enter Try.func12, Try.ntmps12
    go_wp2_with fail
    refine (unhide W1).mono ?_
    rw [← hwB]
    rintro e w1 ⟨rfl, hb1⟩
    have HB := hide (below_step NB hb1)
    clear hb1
    go_wp2
    refine bodyPost_ret (v := .tuple #[.int .i64 0, .int .i64 (Dm.wrongN c1 x1)]) (by simp [results, Try.results12, go_sem]) rfl ?_
    exact ⟨rfl, unhide HB⟩

set_option maxRecDepth 100000 in
set_option maxHeartbeats 4000000 in
theorem rcmpd_ok (c1 x1 c2 x2 : Int) (w : World) (h1 : Dm.wrongN c1 x1 = 0) (h2 : Dm.wrongN c2 x2 = 0) (a1 : -1000000000000000000 < c1) (a2 : c1 < 1000000000000000000) (a3 : -40 ≤ x1) (a4 : x1 ≤ 40) (b1 : -1000000000000000000 < c2) (b2 : c2 < 1000000000000000000) (b3 : -40 ≤ x2) (b4 : x2 ≤ 40) :
    Calls Try.prog 12 #[.agg #[.int .i64 c1, .int .i64 x1], .agg #[.int .i64 c2, .int .i64 x2]] w fun e w' => e = .returned (.tuple #[.int .i64 (icmp (c1 * (10 : Int) ^ x1.toNat * (10 : Int) ^ (-x2).toNat) (c2 * (10 : Int) ^ x2.toNat * (10 : Int) ^ (-x1).toNat)), .int .i64 0]) ∧ Below w.heap.size w w' := by
  obtain ⟨wB, hwB⟩ : ∃ wB, wB = ((w.alloc (.cells #[.int .i64 c1, .int .i64 x1] 23)).alloc (.cells #[.int .i64 c2, .int .i64 x2] 23)) := ⟨_, rfl⟩
  have NB : Below w.heap.size w wB := by rw [hwB]; exact below_step (below_new _ _) (below_new _ _)
  have sB : wB.heap.size = w.heap.size + 2 := by rw [hwB]; simp
  have p10 : wB.cell? ⟨w.heap.size, 0, none⟩ = some (.int .i64 c1) := by rw [hwB]; simp [go_sem]
  have p11 : wB.cell? ⟨w.heap.size, 1, none⟩ = some (.int .i64 x1) := by rw [hwB]; simp [go_sem]
  have p20 : wB.cell? ⟨w.heap.size + 1, 0, none⟩ = some (.int .i64 c2) := by rw [hwB]; simp [go_sem]
  have p21 : wB.cell? ⟨w.heap.size + 1, 1, none⟩ = some (.int .i64 x2) := by rw [hwB]; simp [go_sem]
  have W1 := hide (rwrong_any c1 x1 ((w.alloc (.cells #[.int .i64 c1, .int .i64 x1] 23)).alloc (.cells #[.int .i64 c2, .int .i64 x2] 23)))
  have g1 : (Dm.wrongN c1 x1 != 0) = false := by rw [h1]; rfl
  have g2 : (Dm.wrongN c2 x2 != 0) = false := by rw [h2]; rfl
  have lc1 : Ln c1 ≤ 2 := Ln_small (by omega)
  have lc2 : Ln c2 ≤ 2 := Ln_small (by omega)
  have t1 := Ln_ten x1.toNat
  have t2 := Ln_ten x2.toNat
  have t3 := Ln_ten (-x1).toNat
  have t4 := Ln_ten (-x2).toNat
  have t5 := Ln_mul c1 ((10 : Int) ^ x1.toNat)
  have t6 := Ln_mul c2 ((10 : Int) ^ x2.toNat)
  clear h1 h2
  go_enter Try.func12, Try.ntmps12
  go_wp2_with fail
  refine (unhide W1).mono ?_
  rw [← hwB]
  rintro e w1 ⟨rfl, hb1⟩
  have q10 := (hb1.cell (p := ⟨w.heap.size, 0, none⟩) (by show _ < wB.heap.size; simp only; omega)).trans p10
  have q11 := (hb1.cell (p := ⟨w.heap.size, 1, none⟩) (by show _ < wB.heap.size; simp only; omega)).trans p11
  have q20 := (hb1.cell (p := ⟨w.heap.size + 1, 0, none⟩) (by show _ < wB.heap.size; simp only; omega)).trans p20
  have q21 := (hb1.cell (p := ⟨w.heap.size + 1, 1, none⟩) (by show _ < wB.heap.size; simp only; omega)).trans p21
  have W2 := hide (rwrong_any c2 x2 w1)
  have HB := hide (below_step NB hb1)
  have s1 := hb1.size
  clear hb1 p10 p11 p20 p21
  go_wp2_with fail
  refine (unhide W2).mono ?_
  rintro e w2 ⟨rfl, hb2⟩
  have k10 := (hb2.cell (p := ⟨w.heap.size, 0, none⟩) (by show w.heap.size < w1.heap.size; omega)).trans q10
  have k11 := (hb2.cell (p := ⟨w.heap.size, 1, none⟩) (by show w.heap.size < w1.heap.size; omega)).trans q11
  have k20 := (hb2.cell (p := ⟨w.heap.size + 1, 0, none⟩) (by show w.heap.size + 1 < w1.heap.size; omega)).trans q20
  have k21 := (hb2.cell (p := ⟨w.heap.size + 1, 1, none⟩) (by show w.heap.size + 1 < w1.heap.size; omega)).trans q21
  have HB2 := hide (below_step (unhide HB) hb2)
  have s2 := hb2.size
  have lb1 : w.heap.size < w2.heap.size := by omega
  have lb2 : w.heap.size + 1 < w2.heap.size := by omega
  clear hb2 q10 q11 q20 q21 hwB
  go_upto_region 7 with fail
  refine frame_intro (fun a => G a 2 = .pointer (some ⟨w.heap.size, 0, none⟩) ∧ G a 3 = .pointer (some ⟨w.heap.size + 1, 0, none⟩) ∧ a.tmps.size = 23 ∧ a.defers = []) ⟨rfl, rfl, rfl, rfl⟩ ?_
  rintro f0 ⟨s2', s3, hsz, hdf⟩
  refine region_any (I := RP w2 f0 23 [18, 19, 20, 21, 22, 4, 5] 99 (fun _ => True) [.lit (.agg #[.int .i64 c1, .int .i64 x1]), .ptr 1 (pR (c1 * (10 : Int) ^ x1.toNat) ((10 : Int) ^ (-x1).toNat)), .lit (.agg #[.int .i64 c2, .int .i64 x2]), .ptr 3 (pR (c2 * (10 : Int) ^ x2.toNat) ((10 : Int) ^ (-x2).toNat)), .lit (.int .i64 (icmp (c1 * (10 : Int) ^ x1.toNat * (10 : Int) ^ (-x2).toNat) (c2 * (10 : Int) ^ x2.toNat * (10 : Int) ^ (-x1).toNat))), .lit (.int .i64 (icmp (c1 * (10 : Int) ^ x1.toNat * (10 : Int) ^ (-x2).toNat) (c2 * (10 : Int) ^ x2.toNat * (10 : Int) ^ (-x1).toNat))), .lit (.int .i64 0)]) (by kernel_rfl) ?wait ?step ?done ?start
  case wait => exact ⟨(by simp <;> rfl), (by simp <;> rfl), (by simp <;> rfl), (by simp <;> rfl), (by simp <;> rfl), (by simp <;> rfl), (by simp <;> rfl), trivial⟩
  case start => exact RP.start hsz hdf ((Below.refl _ _).drew)
  case step =>
    refine ⟨?_, ?_, ?_, ?_, ?_, ?_, ?_, trivial⟩
    · rintro L fa wx h hcl hL hw2
      exact rp_val h (by decide) rfl rfl rfl (by decide) (by decide) rfl (run_ldD (eval_G ((h.keep (s := 2) (by decide)).trans s2')) (((h.old (h.nogi (by decide))).cell (p := ⟨w.heap.size, 0, none⟩) lb1).trans k10) (((h.old (h.nogi (by decide))).cell (p := ⟨w.heap.size, 1, none⟩) lb1).trans k11)) rfl
    · rintro L fa wx h hcl hL hw2
      exact rp_make h (by decide) rfl rfl rfl (by decide) (by decide) (h.nogi (by decide)) rfl (run_call1 (eval_G (show G fa 18 = .agg #[.int .i64 c1, .int .i64 x1] from h.lit (hw2 ⟨0, .data⟩ (by simp) rfl) rfl rfl)) callRatd) (ratd_make c1 x1 (by omega) (by omega) (by omega) (by omega) wx) rfl
    · rintro L fa wx h hcl hL hw2
      exact rp_val h (by decide) rfl rfl rfl (by decide) (by decide) rfl (run_ldD (eval_G ((h.keep (s := 3) (by decide)).trans s3)) (((h.old (h.nogi (by decide))).cell (p := ⟨w.heap.size + 1, 0, none⟩) lb2).trans k20) (((h.old (h.nogi (by decide))).cell (p := ⟨w.heap.size + 1, 1, none⟩) lb2).trans k21)) rfl
    · rintro L fa wx h hcl hL hw2
      exact rp_make h (by decide) rfl rfl rfl (by decide) (by decide) (h.nogi (by decide)) rfl (run_call1 (eval_G (show G fa 20 = .agg #[.int .i64 c2, .int .i64 x2] from h.lit (hw2 ⟨2, .data⟩ (by simp) rfl) rfl rfl)) callRatd) (ratd_make c2 x2 (by omega) (by omega) (by omega) (by omega) wx) rfl
    · rintro L fa wx h hcl hL hw2
      obtain ⟨b0, o0, e0, mm0⟩ := h.ptr (h.nogi (by decide)) (hw2 ⟨1, .data⟩ (by simp) rfl) rfl rfl
      obtain ⟨b1, o1, e1, mm1⟩ := h.ptr (h.nogi (by decide)) (hw2 ⟨3, .data⟩ (by simp) rfl) rfl rfl
      exact rp_read h (by decide) rfl rfl rfl (by decide) (by decide) (h.nogi (by decide)) rfl (run_call2 (eval_G e0) (eval_G e1) callRCmp) (rcmp_of mm0 mm1 (by omega) (by omega) (by omega) (by omega)) rfl
    · rintro L fa wx h hcl hL hw2
      exact rp_val h (by decide) rfl rfl rfl (by decide) (by decide) rfl (run_asg (eval_G (show G fa 22 = .int .i64 (icmp (c1 * (10 : Int) ^ x1.toNat * (10 : Int) ^ (-x2).toNat) (c2 * (10 : Int) ^ x2.toNat * (10 : Int) ^ (-x1).toNat)) from h.lit (hw2 ⟨4, .data⟩ (by simp) rfl) rfl rfl))) rfl
    · rintro L fa wx h hcl hL hw2
      exact rp_val h (by decide) rfl rfl rfl (by decide) (by decide) rfl (run_asg rfl) rfl
  case done =>
    rintro L f1 w3 h hall
    have q4 : G f1 4 = .int .i64 (icmp (c1 * (10 : Int) ^ x1.toNat * (10 : Int) ^ (-x2).toNat) (c2 * (10 : Int) ^ x2.toNat * (10 : Int) ^ (-x1).toNat)) := h.lit (i := 5) (hall 5 (by simp)) rfl rfl
    have q5 : G f1 5 = .int .i64 0 := h.lit (i := 6) (hall 6 (by simp)) rfl rfl
    have HO := hide (h.old (h.nogi (by decide)))
    rw [fr23 h.size h.defs, q4, q5]
    clear h hall q4 q5
    go_wp2
    refine bodyPost_ret (v := .tuple #[.int .i64 (icmp (c1 * (10 : Int) ^ x1.toNat * (10 : Int) ^ (-x2).toNat) (c2 * (10 : Int) ^ x2.toNat * (10 : Int) ^ (-x1).toNat)), .int .i64 0]) (by simp [results, Try.results12, go_sem]) rfl ?_
    exact ⟨rfl, below_step (unhide HB2) (unhide HO)⟩

end Go.Proofs.Ytibkemolmpcdcaa
