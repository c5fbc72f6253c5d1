/- Walks: Mod, Cmp of whole numbers. -/
import Derived.Test.YtibkemolmpcdcaaDoorG06
import Derived.Deep.Cut
import Derived.Test.YtibkemolmpcdcaaDoorG04
namespace Go.Proofs.YtibkemolmpcdcaaDoor
open Go.RowKit

theorem bl2_new {w wa w' : World} {b m : Nat} (h0 : Below w.heap.size w wa) (h1 : Bl2 b m wa w') (hb : w.heap.size ≤ b) : Bl2 m m w w' := by
  have s1 := h0.size
  refine ⟨h1.os.trans h0.os, h1.tape.trans h0.tape, h1.output.trans h0.output, Nat.le_trans s1 h1.size, fun k hk hk1 _ => ?_, fun k c t hk => ?_⟩
  · rw [h1.block k (by omega) (by omega) hk1, h0.block k hk]
  · exact h1.self k c t ((h0.block k (Array.getElem?_eq_some_iff.1 hk).1).trans hk)

def icmp (x y : Int) : Int := if x < y then -1 else if x = y then 0 else 1
theorem icmp_pos {x y : Int} (hx : 0 ≤ x) (hy : 0 ≤ y) : icmp x y = Bg.cmpN x.natAbs y.natAbs := by
  unfold icmp
  rcases Int.lt_trichotomy x y with h | h | h
  · rw [if_pos h, Bg.cmpN_lt (by omega)]
  · rw [if_neg (by omega), if_pos h, Bg.cmpN_eq (by omega)]
  · rw [if_neg (by omega), if_neg (by omega), Bg.cmpN_gt (by omega)]
theorem icmp_neg {x y : Int} (hx : x < 0) (hy : y < 0) : icmp x y = -Bg.cmpN x.natAbs y.natAbs := by
  unfold icmp
  rcases Int.lt_trichotomy x y with h | h | h
  · rw [if_pos h, Bg.cmpN_gt (by omega)]
  · rw [if_neg (by omega), if_pos h, Bg.cmpN_eq (by omega)]
    rfl
  · rw [if_neg (by omega), if_neg (by omega), Bg.cmpN_lt (by omega)]
    rfl
theorem cmpN_bd (a b : Nat) : -1 ≤ Bg.cmpN a b ∧ Bg.cmpN a b ≤ 1 := by
  unfold Bg.cmpN
  split
  · omega
  · split <;> omega

set_option maxHeartbeats 4000000 in
theorem icmp_any (bx ox b2 oy : Nat) (x y : Int) (w : World) (hx : IA w bx ox x) (hy : IA w b2 oy y) :
    Calls Tryd.prog 52 #[.pointer (some ⟨bx, ox, none⟩), .pointer (some ⟨b2, oy, none⟩)] w fun e w' => e = .returned (.int .i64 (icmp x y)) ∧ Below w.heap.size w w' := by
  obtain ⟨vx, x1, x2⟩ := hx.abs
  obtain ⟨vy, y1, y2⟩ := hy.abs
  obtain ⟨px, cx, rfl, -⟩ := id x2
  obtain ⟨py, cy, rfl, -⟩ := id y2
  have xn := hx.neg
  have yn := hy.neg
  have bxl := hx.place.low
  have CM := hide (fun (wx : World) (hb : Below w.heap.size w wx) => cmp_any _ _ x.natAbs y.natAbs wx (x2.below hb) (y2.below hb))
  have IP := hide (fun h1 h2 => icmp_pos (x := x) (y := y) h1 h2)
  have IN := hide (fun h1 h2 => icmp_neg (x := x) (y := y) h1 h2)
  obtain ⟨c1, c2⟩ := cmpN_bd x.natAbs y.natAbs
  generalize Bg.cmpN x.natAbs y.natAbs = cm at *
  clear x2 y2 hx hy
  go_enter Tryd.func52, Tryd.ntmps52
  by_cases hxn : x < 0
  · rw [decide_eq_true hxn] at xn
    by_cases hyn : y < 0
    · rw [decide_eq_true hyn] at yn
      have HS := hide (unhide IN hxn hyn)
      go_wp2_with fail
      go_region
      all_goals
        go_wp2_with fail
      go_region_with (
        go_at_call 60
        (refine (unhide CM _ ?_).mono ?_; · exact (by repeat (first | exact Below.refl _ _ | apply Below.drew)))
        rintro e w1 ⟨rfl, hb1⟩
        replace hb1 : Below w.heap.size w w1 := below_via (by repeat (first | exact Below.refl _ _ | apply Below.drew)) hb1
        have xn1 := (hb1.cell (p := ⟨bx, ox, none⟩) bxl).trans xn)
      all_goals
        have HB := hide hb1
        clear hb1
        go_wp2
        go_ret
        rw [unhide HS]
        exact ⟨rfl, by repeat (first | exact unhide HB | apply Below.drew)⟩
    · rw [decide_eq_false hyn] at yn
      have HS : Hid (icmp x y = -1) := hide (by unfold icmp; rw [if_pos (by omega)])
      go_wp2_with fail
      go_region
      all_goals
        go_wp2
        go_ret
        rw [unhide HS]
        exact ⟨rfl, by repeat (first | exact Below.refl _ _ | apply Below.drew)⟩
  · rw [decide_eq_false hxn] at xn
    by_cases hyn : y < 0
    · rw [decide_eq_true hyn] at yn
      have HS : Hid (icmp x y = 1) := hide (by unfold icmp; rw [if_neg (by omega), if_neg (by omega)])
      go_wp2_with fail
      go_region
      all_goals
        go_wp2
        go_ret
        rw [unhide HS]
        exact ⟨rfl, by repeat (first | exact Below.refl _ _ | apply Below.drew)⟩
    · rw [decide_eq_false hyn] at yn
      have HS := hide (unhide IP (by omega) (by omega))
      go_wp2_with fail
      go_region
      all_goals
        go_wp2_with fail
      go_region_with (
        go_at_call 60
        (refine (unhide CM _ ?_).mono ?_; · exact (by repeat (first | exact Below.refl _ _ | apply Below.drew)))
        rintro e w1 ⟨rfl, hb1⟩
        replace hb1 : Below w.heap.size w w1 := below_via (by repeat (first | exact Below.refl _ _ | apply Below.drew)) hb1
        have xn1 := (hb1.cell (p := ⟨bx, ox, none⟩) bxl).trans xn)
      all_goals
        have HB := hide hb1
        clear hb1
        go_wp2
        go_ret
        rw [unhide HS]
        exact ⟨rfl, by repeat (first | exact unhide HB | apply Below.drew)⟩
end Go.Proofs.YtibkemolmpcdcaaDoor

/- Ratios in memory; den. -/
namespace Go.Proofs.YtibkemolmpcdcaaDoor
open Go.RowKit

/-- all but one block is as it was; that one has as many cells of its type -/
structure Blk (p : Nat) (w w' : World) : Prop where
  os : w'.os = w.os
  tape : w'.tape = w.tape
  output : w'.output = w.output
  size : w.heap.size ≤ w'.heap.size
  block : ∀ k, k < w.heap.size → k ≠ p → w'.heap[k]? = w.heap[k]?
  self : ∀ c t, w.heap[p]? = some (.cells c t (0, 0)) → ∃ c', w'.heap[p]? = some (.cells c' t (0, 0)) ∧ c'.size = c.size
theorem Blk.refl (p : Nat) (w : World) : Blk p w w := ⟨rfl, rfl, rfl, Nat.le_refl _, fun _ _ _ => rfl, fun c _ h => ⟨c, h, rfl⟩⟩
theorem Blk.trans {p : Nat} {w1 w2 w3 : World} (h : Blk p w1 w2) (k : Blk p w2 w3) : Blk p w1 w3 :=
  ⟨k.os.trans h.os, k.tape.trans h.tape, k.output.trans h.output, Nat.le_trans h.size k.size, fun i hi hb => (k.block i (Nat.lt_of_lt_of_le hi h.size) hb).trans (h.block i hi hb), fun c t hc => by
    obtain ⟨c2, h2, s2⟩ := h.self c t hc
    obtain ⟨c3, h3, s3⟩ := k.self c2 t h2
    exact ⟨c3, h3, s3.trans s2⟩⟩
theorem Blk.of {p : Nat} {w w' : World} (h : Below w.heap.size w w') : Blk p w w' :=
  ⟨h.os, h.tape, h.output, h.size, fun k hk _ => h.block k hk, fun c _ hc => ⟨c, (h.block p (Array.getElem?_eq_some_iff.1 hc).1).trans hc, rfl⟩⟩
theorem Out.blk {p o : Nat} {w w' : World} (h : Out p o w w') : Blk p w w' :=
  ⟨h.os, h.tape, h.output, h.size, h.block, fun c t hc => by
    obtain ⟨c', g1, g2, _⟩ := h.self c t hc
    exact ⟨c', g1, g2⟩⟩
theorem Bl2.blk {p : Nat} {w w' : World} (h : Bl2 p p w w') : Blk p w w' := ⟨h.os, h.tape, h.output, h.size, fun k hk h1 => h.block k hk h1 h1, fun c t hc => h.self p c t hc⟩
theorem Blk.below {p B : Nat} {w w' : World} (h : Blk p w w') (hb : B ≤ p) (hw : B ≤ w.heap.size) : Below B w w' :=
  ⟨h.os, h.tape, h.output, h.size, fun k hk => h.block k (by omega) (by omega)⟩
theorem Blk.kw {p o : Nat} {w w' : World} (h : Blk p w w') (hz : ZA w p o) : KW w w' := fun k cs hk => by
  by_cases e : k = p
  · subst e
    obtain ⟨c, t, h1, h2, _⟩ := hz
    unfold RW at hk
    rw [hk] at h1
    cases h1
    exact absurd rfl h2
  · exact (h.block k hk.low e).trans hk
theorem ZA.blk {w w' : World} {b o p : Nat} (h : ZA w b o) (hb : Blk p w w') : ZA w' b o := by
  have l := h.low
  obtain ⟨c, t, h1, h2, h3⟩ := h
  by_cases e : b = p
  · subst e
    obtain ⟨c', g1, g2⟩ := hb.self c t h1
    exact ⟨c', t, g1, h2, by omega⟩
  · exact ⟨c, t, (hb.block b l e).trans h1, h2, h3⟩
theorem IA.blk {w w' : World} {b o p : Nat} {z : Int} (h : IA w b o z) (hb : Blk p w w') {q : Nat} (hz : ZA w p q) (ne : b ≠ p) : IA w' b o z := by
  have l := h.place.low
  obtain ⟨v, h1, hw⟩ := h.abs
  have key : ∀ i, w'.cell? ⟨b, i, none⟩ = w.cell? ⟨b, i, none⟩ := fun i => World.cell?_of_block (w := w) (hb.block b l ne)
  exact ⟨h.place.blk hb, (key o).trans h.neg, v, (key (o + 1)).trans h1, hw.keep (hb.kw hz)⟩

/-- a ratio in its block: n over d -/
structure RA (w : World) (p : Nat) (n d : Int) : Prop where
  num : IA w p 0 n
  den : IA w p 2 d
  pos : 0 < d
theorem RA.below {w w' : World} {p : Nat} {n d : Int} (h : RA w p n d) (hb : Below w.heap.size w w') : RA w' p n d := ⟨h.num.below hb, h.den.below hb, h.pos⟩
theorem RA.blk {w w' : World} {p b q : Nat} {n d : Int} (h : RA w p n d) (hb : Blk b w w') (hz : ZA w b q) (ne : p ≠ b) : RA w' p n d := ⟨h.num.blk hb hz ne, h.den.blk hb hz ne, h.pos⟩

set_option maxHeartbeats 1000000 in
theorem den_any (p : Nat) (n d : Int) (w : World) (h : RA w p n d) :
    Calls Tryd.prog 51 #[.pointer (some ⟨p, 0, none⟩)] w fun e w' => e = .returned (.pointer (some ⟨p, 2, none⟩)) ∧ w' = w := by
  obtain ⟨v, x1, x2⟩ := h.den.abs
  obtain ⟨q, c, rfl, -⟩ := id x2
  have hl := wd_pos_len (n := d.natAbs) (by have := h.pos; omega)
  have g1 : (((Bg.wd d.natAbs).length : Int) == 0) = false := by rw [beq_eq_false_iff_ne]; omega
  clear x2 h
  go_enter Tryd.func51, Tryd.ntmps51
  go_wp2
  go_ret
  exact ⟨rfl, rfl⟩

theorem ratio_via {n d n1 d1 n' d' : Int} (h1 : d1 ≠ 0) (e1 : n' * d1 = n1 * d') (e2 : n1 * d = n * d1) : n' * d = n * d' := by
  have : d1 * (n' * d) = d1 * (n * d') := by
    have a : d1 * (n' * d) = n' * d1 * d := by grind
    have b : d1 * (n * d') = n * d1 * d' := by grind
    rw [a, b, e1, ← e2]
    grind
  exact Int.eq_of_mul_eq_mul_left h1 this
theorem put_abs {w : World} {p G : Nat} {x y : Int} {q u : Value} (hx : IA w p 0 x) (hy : IA w p 2 y) (hq : WS w q (Bg.wd (x.natAbs / G))) (hu : WS w u (Bg.wd (y.natAbs / G))) (x0 : x ≠ 0) (g0 : 0 < G) (dx : G ∣ x.natAbs) (dy : G ∣ y.natAbs) (hy0 : 0 < y) :
    ∃ n' d' : Int, RA ((w.setCell ⟨p, 1, none⟩ q).setCell ⟨p, 3, none⟩ u) p n' d' ∧ n' * y = x * d' ∧ n'.natAbs ≤ x.natAbs ∧ d'.natAbs ≤ y.natAbs ∧ Blk p w ((w.setCell ⟨p, 1, none⟩ q).setCell ⟨p, 3, none⟩ u) := by
  have O1 : Out p 0 w (w.setCell ⟨p, 1, none⟩ q) := Out.set (.inr rfl)
  have O2 : Out p 2 (w.setCell ⟨p, 1, none⟩ q) ((w.setCell ⟨p, 1, none⟩ q).setCell ⟨p, 3, none⟩ u) := Out.set (.inr rfl)
  obtain ⟨a, ha⟩ := dx
  obtain ⟨b, hb⟩ := dy
  have ea : x.natAbs / G = a := by rw [ha]; exact Nat.mul_div_cancel_left _ g0
  have eb : y.natAbs / G = b := by rw [hb]; exact Nat.mul_div_cancel_left _ g0
  have a0 : a ≠ 0 := fun e => by rw [e, Nat.mul_zero] at ha; omega
  have b0 : b ≠ 0 := fun e => by rw [e, Nat.mul_zero] at hb; omega
  have la : a ≤ x.natAbs := by rw [← ea]; exact Nat.div_le_self _ _
  have lb : b ≤ y.natAbs := by rw [← eb]; exact Nat.div_le_self _ _
  rw [ea] at hq
  rw [eb] at hu
  obtain ⟨v1, c1, _⟩ := hx.abs
  obtain ⟨v3, c3, _⟩ := hy.abs
  have cx := hx.neg
  have cy := hy.neg
  have kw1 := O1.kw hx.place
  have kw2 := O2.kw (hy.place.out O1)
  have hxy : y = (G : Int) * b := by
    have : ((y.natAbs : Nat) : Int) = ((G * b : Nat) : Int) := by rw [hb]
    rw [Int.natCast_mul] at this
    omega
  have key : ∀ n' : Int, (decide (n' < 0) = decide (x < 0)) → n'.natAbs = a → n' * y = x * (b : Int) → ∃ n' d' : Int, RA ((w.setCell ⟨p, 1, none⟩ q).setCell ⟨p, 3, none⟩ u) p n' d' ∧ n' * y = x * d' ∧ n'.natAbs ≤ x.natAbs ∧ d'.natAbs ≤ y.natAbs ∧ Blk p w ((w.setCell ⟨p, 1, none⟩ q).setCell ⟨p, 3, none⟩ u) := fun n' h1 h2 h3 => by
    refine ⟨n', b, ⟨⟨(hx.place.out O1).out O2, ?_, q, ?_, ?_⟩, ⟨(hy.place.out O1).out O2, ?_, u, ?_, ?_⟩, by omega⟩, h3, by omega, by omega, O1.blk.trans O2.blk⟩
    · rw [h1]
      simp [go_sem, cx]
    · simp [go_sem, c1]
    · rw [h2]; exact (hq.keep kw1).keep kw2
    · rw [decide_eq_false (by omega : ¬ y < 0)] at cy
      rw [decide_eq_false (by omega)]
      simp [go_sem, cy]
    · simp [go_sem, c3]
    · rw [Int.natAbs_natCast]; exact (hu.keep kw1).keep kw2
  have hxa : ((x.natAbs : Nat) : Int) = (G : Int) * a := by rw [ha, Int.natCast_mul]
  rcases Int.lt_or_le x 0 with hn | hn
  · refine key (-(a : Int)) (by rw [decide_eq_true hn]; simp; omega) (by omega) ?_
    have hx2 : x = -((G : Int) * a) := by omega
    rw [hx2, hxy]
    grind
  · refine key (a : Int) (by rw [decide_eq_false (by omega), decide_eq_false (by omega)]) (by omega) ?_
    have hx2 : x = (G : Int) * a := by omega
    rw [hx2, hxy]
    grind
theorem Blk.drew {p : Nat} {w w' : World} (h : Blk p w w') : Blk p w w'.drew := h.trans (Blk.of (Below.refl _ _).drew)
end Go.Proofs.YtibkemolmpcdcaaDoor

/- Walks: norm. -/
namespace Go.Proofs.YtibkemolmpcdcaaDoor
open Go.RowKit

set_option maxRecDepth 100000 in
set_option maxHeartbeats 4000000 in
theorem norm_any (p : Nat) (n d : Int) (w : World) (ha : IA w p 0 n) (hb : IA w p 2 d) (d0 : d ≠ 0) (ln : (Bg.wd n.natAbs).length ≤ 90000) (ld : (Bg.wd d.natAbs).length ≤ 90000) :
    Calls Tryd.prog 58 #[.pointer (some ⟨p, 0, none⟩)] w fun e w' => e = .returned (.pointer (some ⟨p, 0, none⟩)) ∧ (∃ n' d' : Int, RA w' p n' d' ∧ n' * d = n * d' ∧ n'.natAbs ≤ n.natAbs ∧ d'.natAbs ≤ d.natAbs) ∧ Blk p w w' := by
  obtain ⟨v, x1, x2⟩ := hb.abs
  obtain ⟨q, c, rfl, -⟩ := id x2
  have xn := hb.neg
  have hl := wd_pos_len (n := d.natAbs) (by omega)
  have g1 : (((Bg.wd d.natAbs).length : Int) == 0) = false := by rw [beq_eq_false_iff_ne]; omega
  have HA := hide ha
  have HB := hide hb
  clear x2 ha hb
  go_enter Tryd.func58, Tryd.ntmps58
  go_upto_if 23 with fail
  go_cut [] from 8 (fun wc => ∃ n1 d1 : Int, Hid (IA wc p 0 n1) ∧ Hid (IA wc p 2 d1) ∧ 0 < d1 ∧ n1.natAbs = n.natAbs ∧ d1.natAbs = d.natAbs ∧ Hid (n1 * d = n * d1) ∧ Hid (Blk p w wc))
  case first =>
    by_cases hd : d < 0
    · rw [decide_eq_true hd] at xn
      have N1 := hide (fun (wx : World) (hb : Below w.heap.size w wx) => ineg_any p 0 p 0 n wx ((unhide HA).place.below hb) ((unhide HA).below hb) (by omega))
      go_wp2_with fail
      go_region_with (
        go_at_call 64
        (refine (unhide N1 _ ?_).mono ?_; · exact (by repeat (first | exact Below.refl _ _ | apply Below.drew)))
        rintro e w1 ⟨rfl, hi1, ho1⟩
        replace ho1 : Out p 0 w w1 := (Out.of (by repeat (first | exact Below.refl _ _ | apply Below.drew))).trans ho1)
      all_goals
        have j1 := (unhide HB).out ho1 (unhide HA).place (.inr (.inr (by omega)))
        have N2 := hide (fun (wx : World) (hb : Below w1.heap.size w1 wx) => ineg_any p 2 p 2 d wx (j1.place.below hb) (j1.below hb) (by omega))
        have HI1 := hide hi1
        have HO1 := hide ho1
        have HJ1 := hide j1
        clear hi1 ho1 j1
        go_wp2_with fail
      all_goals
        go_region_with (
          go_at_call 64
          (refine (unhide N2 _ ?_).mono ?_; · exact (by repeat (first | exact Below.refl _ _ | apply Below.drew)))
          rintro e w2 ⟨rfl, hi2, ho2⟩
          replace ho2 : Out p 2 w1 w2 := (Out.of (by repeat (first | exact Below.refl _ _ | apply Below.drew))).trans ho2)
        all_goals
          have HI2 := hide hi2
          have HK2 := hide ((unhide HO1).blk.trans ho2.blk)
          have HA2 := hide ((unhide HI1).out ho2 (unhide HJ1).place (.inr (.inl (by omega))))
          clear hi2 ho2
          go_wp2_with fail
          go_meet
          case rel => exact ⟨-n, -d, hide (by repeat (first | exact unhide HA2 | apply IA.drew)), hide (by repeat (first | exact unhide HI2 | apply IA.drew)), by omega, by omega, by omega, hide (by rw [Int.neg_mul, Int.mul_neg]), hide (by repeat (first | exact unhide HK2 | apply Blk.drew))⟩
    · rw [decide_eq_false hd] at xn
      go_wp2_with fail
      go_meet
      case rel => exact ⟨n, d, HA, HB, by omega, rfl, rfl, hide rfl, hide (Blk.refl _ _)⟩
  case rest =>
    obtain ⟨n1, d1, HI, HJ, hpos, hnn, hdd, HXX, HK⟩ := hcut
    obtain ⟨wy, rfl⟩ : ∃ wy, wy = wc := ⟨_, rfl⟩
    have HNN := hide hnn
    have HDD := hide hdd
    clear hnn hdd
    clear x1 xn hl g1 HA HB
    obtain ⟨va, ca1, va2⟩ := (unhide HI).abs
    obtain ⟨vb, cb1, vb2⟩ := (unhide HJ).abs
    obtain ⟨pa, ka, rfl, -⟩ := id va2
    obtain ⟨pb, kb, rfl, -⟩ := id vb2
    have lp := (unhide HI).place.low
    by_cases hn1 : n1 = 0
    · have e0 : (Bg.wd n1.natAbs).length = 0 := by rw [hn1]; simp [Bg.wd_zero]
      rw [e0] at ca1
      have SI := hide (setInt64_any p 2 1 wy (unhide HJ).place (by omega) (by omega))
      clear va2 vb2 cb1
      go_wp2_with fail
      refine (unhide SI).mono ?_
      rintro e w1 ⟨rfl, hi1, ho1⟩
      have HI1 := hide hi1
      have HO1 := hide ho1
      have HA1 := hide ((unhide HI).out ho1 (unhide HJ).place (.inr (.inl (by omega))))
      clear hi1 ho1
      go_wp2
      go_ret
      have hnn := unhide HNN
      have hdd := unhide HDD
      refine ⟨rfl, ⟨n1, 1, ⟨unhide HA1, unhide HI1, by omega⟩, ?_, by omega, by omega⟩, (unhide HK).trans (unhide HO1).blk⟩
      have : n = 0 := by omega
      rw [hn1, this]
      omega
    · have ga : (((Bg.wd n1.natAbs).length : Int) == 0) = false := by
        have := wd_pos_len (n := n1.natAbs) (by omega)
        rw [beq_eq_false_iff_ne]; omega
      have HVA := hide va2
      have HVB := hide vb2
      by_cases hd1 : d1 = 1
      · subst hd1
        obtain ⟨b5, o5, rfl, -, c5⟩ := WS.at vb2 0 1 (by rw [show (1 : Int).natAbs = 1 from rfl, Bg.wd_one (by omega) (by omega)]; rfl)
        have e5 : (Bg.wd (1 : Int).natAbs).length = 1 := by rw [show (1 : Int).natAbs = 1 from rfl, Bg.wd_one (by omega) (by omega)]; rfl
        rw [e5] at cb1
        have c6 : wy.cell? ⟨b5, o5, none⟩ = some (.int .u32 (1 : Int)) := c5
        clear c5 va2 vb2
        go_wp2
        go_ret
        have hnn := unhide HNN
        have hdd := unhide HDD
        exact ⟨rfl, ⟨n1, 1, ⟨unhide HI, unhide HJ, by omega⟩, unhide HXX, by omega, by omega⟩, unhide HK⟩
      · by_cases hds : d1.natAbs < 4294967296
        · obtain ⟨b5, o5, rfl, -, c5⟩ := WS.at vb2 0 d1.natAbs (by rw [Bg.wd_one hds (by omega)]; rfl)
          have e5 : (Bg.wd d1.natAbs).length = 1 := by rw [Bg.wd_one hds (by omega)]; rfl
          rw [e5] at cb1 HVB
          have c6 : wy.cell? ⟨b5, o5, none⟩ = some (.int .u32 (d1.natAbs : Int)) := c5
          have dne : ((d1.natAbs : Int) == 1) = false := by rw [beq_eq_false_iff_ne]; omega
          clear c5 va2 vb2
          have CN := hide (fun (wx : World) (hb : Below wy.heap.size wy wx) => common_any _ _ n1.natAbs d1.natAbs wx ((unhide HVA).below hb) ((unhide HVB).below hb) (by rw [unhide HNN]; omega) (by rw [unhide HDD]; omega))
          go_upto_region 11 with fail
          go_cut [3] from 8 (fun v w2 => ∃ (G : Nat) (pg : Option Addr) (kg : Nat), v = .slice pg (Bg.wd G).length kg ∧ Hid (WS w2 (.slice pg (Bg.wd G).length kg) (Bg.wd G)) ∧ Hid (G = Nat.gcd n1.natAbs d1.natAbs) ∧ Hid (Below wy.heap.size wy w2))
          case first =>
            go_wp2_with fail
            go_region_with (
              go_at_call 65
              (refine (unhide CN _ ?_).mono ?_; · exact (by repeat (first | exact Below.refl _ _ | apply Below.drew)))
              rintro e w1 ⟨v1, rfl, hv1, hb1⟩
              obtain ⟨pg, kg, rfl, -⟩ := id hv1
              replace hb1 : Below wy.heap.size wy w1 := below_via (by repeat (first | exact Below.refl _ _ | apply Below.drew)) hb1)
            all_goals
              have HV1 := hide hv1
              have HB1 := hide hb1
              clear hv1 hb1
              go_wp2_with fail
              go_meet
              case rel => exact ⟨_, pg, kg, rfl, hide ((unhide HV1).below (by repeat (first | exact Below.refl _ _ | apply Below.drew))), hide rfl, hide (by repeat (first | exact unhide HB1 | apply Below.drew))⟩
          case rest =>
            obtain ⟨w2, rfl⟩ : ∃ w2, w2 = wc := ⟨_, rfl⟩
            obtain ⟨G, pg, kg, rfl, HG, HGE, HB2⟩ := hcut
            have g0 : G ≠ 0 := fun e => hn1 (by have := Nat.eq_zero_of_gcd_eq_zero_left ((unhide HGE).symm.trans e); omega)
            by_cases hG1 : G = 1
            · subst hG1
              obtain ⟨b5, o5, rfl, -, c5⟩ := WS.at (unhide HG) 0 1 (by rw [Bg.wd_one (by omega) (by omega)]; rfl)
              have e5 : (Bg.wd 1).length = 1 := by rw [Bg.wd_one (by omega) (by omega)]; rfl
              rw [e5]
              have c6 : w2.cell? ⟨b5, o5, none⟩ = some (.int .u32 (1 : Int)) := c5
              clear c5
              go_wp2
              go_ret
              have hnn := unhide HNN
              have hdd := unhide HDD
              exact ⟨rfl, ⟨n1, d1, ⟨(unhide HI).below (unhide HB2), (unhide HJ).below (unhide HB2), hpos⟩, unhide HXX, by omega, by omega⟩, (unhide HK).trans (Blk.of (unhide HB2))⟩
            · by_cases hGs : G < 4294967296
              · obtain ⟨b5, o5, rfl, -, c5⟩ := WS.at (unhide HG) 0 G (by rw [Bg.wd_one hGs g0]; rfl)
                have e5 : (Bg.wd G).length = 1 := by rw [Bg.wd_one hGs g0]; rfl
                rw [e5] at HG ⊢
                have c6 : w2.cell? ⟨b5, o5, none⟩ = some (.int .u32 (G : Int)) := c5
                have gne : ((G : Int) == 1) = false := by rw [beq_eq_false_iff_ne]; omega
                clear c5
                have hGb : G ≤ d1.natAbs := by rw [unhide HGE]; exact Nat.gcd_le_right _ (by omega)
                have lG : (Bg.wd G).length ≤ 100000 := Nat.le_trans (Bg.wd_mono hGb) (by rw [unhide HDD]; omega)
                have D1 := hide (div_any _ _ n1.natAbs G w2 ((unhide HVA).below (unhide HB2)) (unhide HG) (by rw [unhide HNN]; omega) lG g0)
                have a1 := ((unhide HB2).cell (p := ⟨p, 0 + 1, none⟩) lp).trans ca1
                have a3 := ((unhide HB2).cell (p := ⟨p, 2 + 1, none⟩) lp).trans cb1
                go_wp2_with fail
                try go_wp2_with fail
                refine (unhide D1).mono ?_
                rintro e w3 ⟨v1, v2, rfl, hv1, -, hb3⟩
                obtain ⟨q1, k1, rfl, -⟩ := id hv1
                have D2 := hide (div_any _ _ d1.natAbs G w3 (((unhide HVB).below (unhide HB2)).below hb3) ((unhide HG).below hb3) (by rw [unhide HDD]; omega) lG g0)
                have a4 := (hb3.cell (p := ⟨p, 2 + 1, none⟩) (by have := (unhide HB2).size; simp only; omega)).trans a3
                have HV1 := hide hv1
                have HB3 := hide hb3
                clear hv1 hb3
                go_wp2_with fail
                refine (unhide D2).mono ?_
                rintro e w4 ⟨v3, v4, rfl, hv3, -, hb4⟩
                obtain ⟨q3, k3, rfl, -⟩ := id hv3
                have HB4 := hide (below_via (unhide HB2) (below_via (unhide HB3) hb4))
                have HV1' := hide ((unhide HV1).below hb4)
                have HV3 := hide hv3
                have z0 := (unhide HI).place.below (unhide HB4)
                have z2 := (unhide HJ).place.below (unhide HB4)
                have b1 := ((unhide HB4).cell (p := ⟨p, 0 + 1, none⟩) lp).trans ca1
                have b3 := ((unhide HB4).cell (p := ⟨p, 2 + 1, none⟩) lp).trans cb1
                have f1 := z0.frozen 1
                have f3 := z0.frozen 3
                have HT := hide (put_abs (x := n1) (y := d1) (q := .slice q1 (Bg.wd (n1.natAbs / G)).length k1) (u := .slice q3 (Bg.wd (d1.natAbs / G)).length k3) ((unhide HI).below (unhide HB4)) ((unhide HJ).below (unhide HB4)) (unhide HV1') (unhide HV3) hn1 (by omega) (by rw [unhide HGE]; exact Nat.gcd_dvd_left _ _) (by rw [unhide HGE]; exact Nat.gcd_dvd_right _ _) hpos)
                clear hv3 hb4 z0 z2 a1 a3 a4
                go_wp2
                go_ret
                have hnn := unhide HNN
                have hdd := unhide HDD
                obtain ⟨n', d', hr, e1, l1, l2, hk⟩ := unhide HT
                exact ⟨rfl, ⟨n', d', hr, ratio_via (by omega) e1 (unhide HXX), by omega, by omega⟩, (unhide HK).trans ((Blk.of (unhide HB4)).trans hk)⟩
              · exfalso
                have hGb : G ≤ d1.natAbs := by rw [unhide HGE]; exact Nat.gcd_le_right _ (by omega)
                omega
        · have e5 : 2 ≤ (Bg.wd d1.natAbs).length := Bg.len_ge (k := 1) (by omega)
          have dne : (((Bg.wd d1.natAbs).length : Int) == 1) = false := by rw [beq_eq_false_iff_ne]; omega
          clear va2 vb2
          have CN := hide (fun (wx : World) (hb : Below wy.heap.size wy wx) => common_any _ _ n1.natAbs d1.natAbs wx ((unhide HVA).below hb) ((unhide HVB).below hb) (by rw [unhide HNN]; omega) (by rw [unhide HDD]; omega))
          go_upto_region 11 with fail
          go_cut [3] from 8 (fun v w2 => ∃ (G : Nat) (pg : Option Addr) (kg : Nat), v = .slice pg (Bg.wd G).length kg ∧ Hid (WS w2 (.slice pg (Bg.wd G).length kg) (Bg.wd G)) ∧ Hid (G = Nat.gcd n1.natAbs d1.natAbs) ∧ Hid (Below wy.heap.size wy w2))
          case first =>
            go_wp2_with fail
            go_region_with (
              go_at_call 65
              (refine (unhide CN _ ?_).mono ?_; · exact (by repeat (first | exact Below.refl _ _ | apply Below.drew)))
              rintro e w1 ⟨v1, rfl, hv1, hb1⟩
              obtain ⟨pg, kg, rfl, -⟩ := id hv1
              replace hb1 : Below wy.heap.size wy w1 := below_via (by repeat (first | exact Below.refl _ _ | apply Below.drew)) hb1)
            all_goals
              have HV1 := hide hv1
              have HB1 := hide hb1
              clear hv1 hb1
              go_wp2_with fail
              go_meet
              case rel => exact ⟨_, pg, kg, rfl, hide ((unhide HV1).below (by repeat (first | exact Below.refl _ _ | apply Below.drew))), hide rfl, hide (by repeat (first | exact unhide HB1 | apply Below.drew))⟩
          case rest =>
            obtain ⟨w2, rfl⟩ : ∃ w2, w2 = wc := ⟨_, rfl⟩
            obtain ⟨G, pg, kg, rfl, HG, HGE, HB2⟩ := hcut
            have g0 : G ≠ 0 := fun e => hn1 (by have := Nat.eq_zero_of_gcd_eq_zero_left ((unhide HGE).symm.trans e); omega)
            by_cases hG1 : G = 1
            · subst hG1
              obtain ⟨b5, o5, rfl, -, c5⟩ := WS.at (unhide HG) 0 1 (by rw [Bg.wd_one (by omega) (by omega)]; rfl)
              have e5 : (Bg.wd 1).length = 1 := by rw [Bg.wd_one (by omega) (by omega)]; rfl
              rw [e5]
              have c6 : w2.cell? ⟨b5, o5, none⟩ = some (.int .u32 (1 : Int)) := c5
              clear c5
              go_wp2
              go_ret
              have hnn := unhide HNN
              have hdd := unhide HDD
              exact ⟨rfl, ⟨n1, d1, ⟨(unhide HI).below (unhide HB2), (unhide HJ).below (unhide HB2), hpos⟩, unhide HXX, by omega, by omega⟩, (unhide HK).trans (Blk.of (unhide HB2))⟩
            · by_cases hGs : G < 4294967296
              · obtain ⟨b5, o5, rfl, -, c5⟩ := WS.at (unhide HG) 0 G (by rw [Bg.wd_one hGs g0]; rfl)
                have e5 : (Bg.wd G).length = 1 := by rw [Bg.wd_one hGs g0]; rfl
                rw [e5] at HG ⊢
                have c6 : w2.cell? ⟨b5, o5, none⟩ = some (.int .u32 (G : Int)) := c5
                have gne : ((G : Int) == 1) = false := by rw [beq_eq_false_iff_ne]; omega
                clear c5
                have hGb : G ≤ d1.natAbs := by rw [unhide HGE]; exact Nat.gcd_le_right _ (by omega)
                have lG : (Bg.wd G).length ≤ 100000 := Nat.le_trans (Bg.wd_mono hGb) (by rw [unhide HDD]; omega)
                have D1 := hide (div_any _ _ n1.natAbs G w2 ((unhide HVA).below (unhide HB2)) (unhide HG) (by rw [unhide HNN]; omega) lG g0)
                have a1 := ((unhide HB2).cell (p := ⟨p, 0 + 1, none⟩) lp).trans ca1
                have a3 := ((unhide HB2).cell (p := ⟨p, 2 + 1, none⟩) lp).trans cb1
                go_wp2_with fail
                try go_wp2_with fail
                refine (unhide D1).mono ?_
                rintro e w3 ⟨v1, v2, rfl, hv1, -, hb3⟩
                obtain ⟨q1, k1, rfl, -⟩ := id hv1
                have D2 := hide (div_any _ _ d1.natAbs G w3 (((unhide HVB).below (unhide HB2)).below hb3) ((unhide HG).below hb3) (by rw [unhide HDD]; omega) lG g0)
                have a4 := (hb3.cell (p := ⟨p, 2 + 1, none⟩) (by have := (unhide HB2).size; simp only; omega)).trans a3
                have HV1 := hide hv1
                have HB3 := hide hb3
                clear hv1 hb3
                go_wp2_with fail
                refine (unhide D2).mono ?_
                rintro e w4 ⟨v3, v4, rfl, hv3, -, hb4⟩
                obtain ⟨q3, k3, rfl, -⟩ := id hv3
                have HB4 := hide (below_via (unhide HB2) (below_via (unhide HB3) hb4))
                have HV1' := hide ((unhide HV1).below hb4)
                have HV3 := hide hv3
                have z0 := (unhide HI).place.below (unhide HB4)
                have z2 := (unhide HJ).place.below (unhide HB4)
                have b1 := ((unhide HB4).cell (p := ⟨p, 0 + 1, none⟩) lp).trans ca1
                have b3 := ((unhide HB4).cell (p := ⟨p, 2 + 1, none⟩) lp).trans cb1
                have f1 := z0.frozen 1
                have f3 := z0.frozen 3
                have HT := hide (put_abs (x := n1) (y := d1) (q := .slice q1 (Bg.wd (n1.natAbs / G)).length k1) (u := .slice q3 (Bg.wd (d1.natAbs / G)).length k3) ((unhide HI).below (unhide HB4)) ((unhide HJ).below (unhide HB4)) (unhide HV1') (unhide HV3) hn1 (by omega) (by rw [unhide HGE]; exact Nat.gcd_dvd_left _ _) (by rw [unhide HGE]; exact Nat.gcd_dvd_right _ _) hpos)
                clear hv3 hb4 z0 z2 a1 a3 a4
                go_wp2
                go_ret
                have hnn := unhide HNN
                have hdd := unhide HDD
                obtain ⟨n', d', hr, e1, l1, l2, hk⟩ := unhide HT
                exact ⟨rfl, ⟨n', d', hr, ratio_via (by omega) e1 (unhide HXX), by omega, by omega⟩, (unhide HK).trans ((Blk.of (unhide HB4)).trans hk)⟩
              · have e5 : 2 ≤ (Bg.wd G).length := Bg.len_ge (k := 1) (by omega)
                have gne : (((Bg.wd G).length : Int) == 1) = false := by rw [beq_eq_false_iff_ne]; omega
                have hGb : G ≤ d1.natAbs := by rw [unhide HGE]; exact Nat.gcd_le_right _ (by omega)
                have lG : (Bg.wd G).length ≤ 100000 := Nat.le_trans (Bg.wd_mono hGb) (by rw [unhide HDD]; omega)
                have D1 := hide (div_any _ _ n1.natAbs G w2 ((unhide HVA).below (unhide HB2)) (unhide HG) (by rw [unhide HNN]; omega) lG g0)
                have a1 := ((unhide HB2).cell (p := ⟨p, 0 + 1, none⟩) lp).trans ca1
                have a3 := ((unhide HB2).cell (p := ⟨p, 2 + 1, none⟩) lp).trans cb1
                go_wp2_with fail
                try go_wp2_with fail
                refine (unhide D1).mono ?_
                rintro e w3 ⟨v1, v2, rfl, hv1, -, hb3⟩
                obtain ⟨q1, k1, rfl, -⟩ := id hv1
                have D2 := hide (div_any _ _ d1.natAbs G w3 (((unhide HVB).below (unhide HB2)).below hb3) ((unhide HG).below hb3) (by rw [unhide HDD]; omega) lG g0)
                have a4 := (hb3.cell (p := ⟨p, 2 + 1, none⟩) (by have := (unhide HB2).size; simp only; omega)).trans a3
                have HV1 := hide hv1
                have HB3 := hide hb3
                clear hv1 hb3
                go_wp2_with fail
                refine (unhide D2).mono ?_
                rintro e w4 ⟨v3, v4, rfl, hv3, -, hb4⟩
                obtain ⟨q3, k3, rfl, -⟩ := id hv3
                have HB4 := hide (below_via (unhide HB2) (below_via (unhide HB3) hb4))
                have HV1' := hide ((unhide HV1).below hb4)
                have HV3 := hide hv3
                have z0 := (unhide HI).place.below (unhide HB4)
                have z2 := (unhide HJ).place.below (unhide HB4)
                have b1 := ((unhide HB4).cell (p := ⟨p, 0 + 1, none⟩) lp).trans ca1
                have b3 := ((unhide HB4).cell (p := ⟨p, 2 + 1, none⟩) lp).trans cb1
                have f1 := z0.frozen 1
                have f3 := z0.frozen 3
                have HT := hide (put_abs (x := n1) (y := d1) (q := .slice q1 (Bg.wd (n1.natAbs / G)).length k1) (u := .slice q3 (Bg.wd (d1.natAbs / G)).length k3) ((unhide HI).below (unhide HB4)) ((unhide HJ).below (unhide HB4)) (unhide HV1') (unhide HV3) hn1 (by omega) (by rw [unhide HGE]; exact Nat.gcd_dvd_left _ _) (by rw [unhide HGE]; exact Nat.gcd_dvd_right _ _) hpos)
                clear hv3 hb4 z0 z2 a1 a3 a4
                go_wp2
                go_ret
                have hnn := unhide HNN
                have hdd := unhide HDD
                obtain ⟨n', d', hr, e1, l1, l2, hk⟩ := unhide HT
                exact ⟨rfl, ⟨n', d', hr, ratio_via (by omega) e1 (unhide HXX), by omega, by omega⟩, (unhide HK).trans ((Blk.of (unhide HB4)).trans hk)⟩
end Go.Proofs.YtibkemolmpcdcaaDoor

/- A region that draws its order and in which new places are made and written by calls: by a list that says what each slot holds, a place of its own having a code. -/
namespace Go.Proofs.YtibkemolmpcdcaaDoor
open Go.RowKit

/-- the block of a pointer -/
def vb : Value → Nat
  | .pointer (some ⟨b, _, _⟩) => b
  | _ => 0
theorem vb_ptr (b o : Nat) : vb (.pointer (some ⟨b, o, none⟩)) = b := rfl
/-- one block and all words are as they were -/
structure Kept (b : Nat) (w w' : World) : Prop where
  blk : w'.heap[b]? = w.heap[b]?
  kw : KW w w'
theorem Kept.of {b : Nat} {w w' : World} (h : Below w.heap.size w w') (l : b < w.heap.size) : Kept b w w' := ⟨h.block b l, KW.of h⟩
theorem Kept.blk' {b p q : Nat} {w w' : World} (h : Blk p w w') (hz : ZA w p q) (l : b < w.heap.size) (ne : b ≠ p) : Kept b w w' := ⟨h.block b l ne, h.kw hz⟩
theorem ZA.kept {w w' : World} {b o : Nat} (h : ZA w b o) (k : Kept b w w') : ZA w' b o := by
  obtain ⟨c, t, h1, h2⟩ := h
  exact ⟨c, t, k.blk.trans h1, h2⟩
theorem IA.kept {w w' : World} {b o : Nat} {z : Int} (h : IA w b o z) (k : Kept b w w') : IA w' b o z := by
  obtain ⟨v, h1, hw⟩ := h.abs
  have key : ∀ i, w'.cell? ⟨b, i, none⟩ = w.cell? ⟨b, i, none⟩ := fun i => World.cell?_of_block (w := w) k.blk
  exact ⟨h.place.kept k, (key o).trans h.neg, v, (key (o + 1)).trans h1, hw.keep k.kw⟩

/-- what a place holds: it stays as long as its block and all words do -/
structure Pl where
  is : World → Nat → Nat → Prop
  low : ∀ {w b o}, is w b o → b < w.heap.size
  kept : ∀ {w w' b o}, is w b o → Kept b w w' → is w' b o
/-- a whole number -/
def pI (z : Int) : Pl := ⟨fun w b o => IA w b o z, fun h => h.place.low, fun h k => h.kept k⟩
/-- an empty place of cells up to q + 1 -/
def pZ (q : Nat) : Pl := ⟨fun w b o => o = 0 ∧ ZA w b q, fun h => h.2.low, fun h k => ⟨h.1, h.2.kept k⟩⟩

inductive Dn where
  | lit (v : Value)
  | ptr (m : Nat) (P : Pl)
  | new (m : Nat) (q : Nat)
  | any
def Dn.ok (B : Nat) : Dn → Value → World → Prop
  | .lit u, v, _ => v = u
  | .ptr _ P, v, w => ∃ b o, v = .pointer (some ⟨b, o, none⟩) ∧ P.is w b o
  | .new _ q, v, w => ∃ b, v = .pointer (some ⟨b, 0, none⟩) ∧ ZA w b q ∧ B ≤ b
  | .any, _, _ => True
def Dn.isLit : Dn → Value → Prop
  | .lit v, x => x = v
  | _, _ => True
def Dn.code : Dn → Option Nat
  | .lit _ => none
  | .ptr m _ => some m
  | .new m _ => some m
  | .any => none
theorem Dn.low {B : Nat} {x : Dn} {v : Value} {w : World} {m : Nat} (h : x.ok B v w) (hm : x.code = some m) : vb v < w.heap.size := by
  cases x with
  | lit u => cases hm
  | ptr m P => obtain ⟨b, o, rfl, hp⟩ := h; exact P.low hp
  | new m q => obtain ⟨b, rfl, hz, _⟩ := h; exact hz.low
  | any => cases hm
theorem Dn.keep {B : Nat} {x : Dn} {v : Value} {w w' : World} (h : x.ok B v w) (k : x.code ≠ none → Kept (vb v) w w') : x.ok B v w' := by
  cases x with
  | lit u => exact h
  | ptr m P => obtain ⟨b, o, rfl, hp⟩ := h; exact ⟨b, o, rfl, P.kept hp (k (by simp [Dn.code]))⟩
  | new m q => obtain ⟨b, rfl, hz, hb⟩ := h; exact ⟨b, rfl, hz.kept (k (by simp [Dn.code])), hb⟩
  | any => trivial
def dn (l : List Dn) (i : Nat) : Dn := (l[i]?).getD .any
def OkN (B : Nat) (g : Bool) (l : List Dn) (i : Nat) (v : Value) (w : World) : Prop := if g = true then (dn l i).isLit v else (dn l i).ok B v w

structure RP (w0 : World) (a0 : Act) (N : Nat) (D : List Nat) (gi : Nat) (Fin : World → Prop) (l : List Dn) (L : Nat → Bool) (a : Act) (w : World) : Prop where
  size : a.tmps.size = N
  defs : a.defers = []
  rest : ∀ j, (∀ i d, L i = true → D[i]? = some d → d ≠ j) → G a j = G a0 j
  got : ∀ i d, L i = true → D[i]? = some d → OkN w0.heap.size (L gi) l i (G a d) w
  sep : L gi = false → ∀ i j d e m n, L i = true → L j = true → D[i]? = some d → D[j]? = some e → (dn l i).code = some m → (dn l j).code = some n → m ≠ n → vb (G a d) ≠ vb (G a e) ∨ vb (G a d) < w0.heap.size
  old : L gi = false → Below w0.heap.size w0 w
  fin : L gi = true → Fin w
  nogi : D.length ≤ gi → L gi = false
section
variable {w0 w w' : World} {a0 a a' : Act} {N gi : Nat} {D : List Nat} {Fin : World → Prop} {l : List Dn} {L : Nat → Bool} {ops : Array Oper} {Q : Exit → Act → World → Prop} {i d : Nat} {o : Oper}
theorem RP.keep (h : RP w0 a0 N D gi Fin l L a w) {s : Nat} (hs : s ∉ D) : G a s = G a0 s :=
  h.rest s (fun _ _ _ hd e => hs (e ▸ List.mem_of_getElem? hd))
theorem RP.start (h1 : a0.tmps.size = N) (h2 : a0.defers = []) (h3 : Below w0.heap.size w0 w) : RP w0 a0 N D gi Fin l (fun _ => false) a0 w :=
  ⟨h1, h2, fun _ _ => rfl, fun _ _ h => (by cases h), fun _ _ _ _ _ _ _ h => (by cases h), fun _ => h3, fun h => (by cases h), fun _ => rfl⟩
theorem RP.lit (h : RP w0 a0 N D gi Fin l L a w) (hL : L i = true) (hD : D[i]? = some d) {u : Value} (hl : dn l i = .lit u) : G a d = u := by
  have g := h.got i d hL hD
  unfold OkN at g
  split at g
  · rw [hl] at g; exact g
  · rw [hl] at g; exact g
theorem RP.ptr (h : RP w0 a0 N D gi Fin l L a w) (hg : L gi = false) (hL : L i = true) (hD : D[i]? = some d) {m : Nat} {P : Pl} (hl : dn l i = .ptr m P) : ∃ b o, G a d = .pointer (some ⟨b, o, none⟩) ∧ P.is w b o := by
  have g := h.got i d hL hD
  unfold OkN at g
  rw [hg, hl] at g
  exact g
theorem RP.new (h : RP w0 a0 N D gi Fin l L a w) (hg : L gi = false) (hL : L i = true) (hD : D[i]? = some d) {m q : Nat} (hl : dn l i = .new m q) : ∃ b, G a d = .pointer (some ⟨b, 0, none⟩) ∧ ZA w b q ∧ w0.heap.size ≤ b := by
  have g := h.got i d hL hD
  unfold OkN at g
  rw [hg, hl] at g
  exact g
/-- any step but the last one: what the others hold is kept, the new one is apart -/
theorem RP.step (h : RP w0 a0 N D gi Fin l L a w) (nd : D.Nodup) (i : Nat) {d : Nat} {v : Value} (hi : D[i]? = some d) (ne : gi ≠ i) (U : Upd a d v a') (hd : a'.defers = a.defers)
    (hw : w' = w ∨ (L gi = false ∧ Below w0.heap.size w0 w' ∧ ∀ j e, L j = true → j ≠ i → D[j]? = some e → (dn l j).ok w0.heap.size (G a e) w'))
    (ok : OkN w0.heap.size (L gi) l i v w')
    (hs : L gi = false → ∀ j e m n, L j = true → j ≠ i → D[j]? = some e → (dn l i).code = some m → (dn l j).code = some n → m ≠ n → (vb v ≠ vb (G a e) ∨ vb v < w0.heap.size) ∧ (vb (G a e) ≠ vb v ∨ vb (G a e) < w0.heap.size)) :
    RP w0 a0 N D gi Fin l (fun j => j == i || L j) a' w' := by
  have eg : (gi == i || L gi) = L gi := by simp [ne]
  have oth : ∀ j e, (j == i || L j) = true → D[j]? = some e → j ≠ i → L j = true ∧ G a' e = G a e := fun j e hj he e1 => by
    have hL : L j = true := by simpa [e1] using hj
    have hne : e ≠ d := fun q => e1 (nodup_at nd hi (q ▸ he))
    exact ⟨hL, U.rest e hne⟩
  refine ⟨U.size.trans h.size, hd.trans h.defs, fun j hj => ?_, fun j e hj he => ?_, fun hg j k e f m n hj hk he hf hm hn hmn => ?_, fun hg => ?_, fun hg => ?_, fun hg => ?_⟩
  · have hne : j ≠ d := fun e => hj i d (by simp) hi e.symm
    rw [U.rest j hne]
    exact h.rest j (fun i' d' hi' hd' => hj i' d' (by simp [hi']) hd')
  · show OkN w0.heap.size (gi == i || L gi) l j (G a' e) w'
    rw [eg]
    by_cases e1 : j = i
    · subst e1
      rw [hi] at he
      cases he
      rw [U.got]
      exact ok
    · obtain ⟨hL, hG⟩ := oth j e hj he e1
      rw [hG]
      rcases hw with rfl | ⟨hg, _, hk⟩
      · exact h.got j e hL he
      · unfold OkN
        rw [hg]
        exact hk j e hL e1 he
  · have hg' : L gi = false := by rw [← eg]; exact hg
    by_cases e1 : j = i
    · subst e1
      rw [hi] at he
      cases he
      by_cases e2 : k = j
      · subst e2
        rw [hm] at hn
        cases hn
        exact absurd rfl hmn
      · obtain ⟨hL, hG⟩ := oth k f hk hf e2
        rw [U.got, hG]
        exact (hs hg' k f m n hL e2 hf hm hn hmn).1
    · obtain ⟨hL1, hG1⟩ := oth j e hj he e1
      by_cases e2 : k = i
      · subst e2
        rw [hi] at hf
        cases hf
        rw [U.got, hG1]
        exact (hs hg' j e n m hL1 e1 he hn hm (Ne.symm hmn)).2
      · obtain ⟨hL2, hG2⟩ := oth k f hk hf e2
        rw [hG1, hG2]
        exact h.sep hg' j k e f m n hL1 hL2 he hf hm hn hmn
  · have hg' : L gi = false := by rw [← eg]; exact hg
    rcases hw with rfl | ⟨_, hb, _⟩
    · exact h.old hg'
    · exact hb
  · have hg' : L gi = true := by rw [← eg]; exact hg
    rcases hw with rfl | ⟨hq, _⟩
    · exact h.fin hg'
    · rw [hg'] at hq; cases hq
  · show (gi == i || L gi) = false
    rw [eg]
    exact h.nogi hg
theorem RP.last (h : RP w0 a0 N D gi Fin l L a w) (nd : D.Nodup) {d : Nat} {v : Value} (hi : D[gi]? = some d) (hg : L gi = false) (U : Upd a d v a') (hd : a'.defers = a.defers) (ok : (dn l gi).isLit v) (fin : Fin w') :
    RP w0 a0 N D gi Fin l (fun j => j == gi || L j) a' w' := by
  have eg : (gi == gi || L gi) = true := by simp
  refine ⟨U.size.trans h.size, hd.trans h.defs, fun j hj => ?_, fun j e hj he => ?_, fun hq => (by simp at hq), fun hq => (by simp at hq), fun _ => fin, fun hq => ?_⟩
  · have hne : j ≠ d := fun e => hj gi d (by simp) hi e.symm
    rw [U.rest j hne]
    exact h.rest j (fun i' d' hi' hd' => hj i' d' (by simp [hi']) hd')
  · show OkN w0.heap.size (gi == gi || L gi) l j (G a' e) w'
    rw [eg]
    unfold OkN
    rw [if_pos rfl]
    by_cases e1 : j = gi
    · subst e1
      rw [hi] at he
      cases he
      rw [U.got]
      exact ok
    · have hL : L j = true := by simpa [e1] using hj
      have hne : e ≠ d := fun q => e1 (nodup_at nd hi (q ▸ he))
      rw [U.rest e hne]
      have g := h.got j e hL he
      unfold OkN at g
      rw [hg] at g
      generalize dn l j = x at g ⊢
      cases x with
      | lit u => exact g
      | ptr m P => trivial
      | new m q => trivial
      | any => trivial
  · exact absurd hq (by have := (List.getElem?_eq_some_iff.1 hi).1; omega)

theorem below_step (h : Below w0.heap.size w0 w) (hb : Below w.heap.size w w') : Below w0.heap.size w0 w' := h.trans (hb.mono h.size)
/-- a known value, nothing written but new memory -/
theorem rp_val (h : RP w0 a0 N D gi Fin l L a w) (nd : D.Nodup) (hi : ops[i]? = some o) (hd : o.dst = some d) (hDi : D[i]? = some d) (hN : d < N) (ne : gi ≠ i) (hw : Region.wanted o (yielded ops a.tmps) = true) {v : Value} (r : (execOp a.eval o).run Tryd.prog w = .ok (.value v) w) (hl : dn l i = .lit v) :
    wpOp Tryd.prog ops Q i (fun a' w' => RP w0 a0 N D gi Fin l (fun j => j == i || L j) a' w') a w :=
  o_val hi hd hw (by rw [h.size]; exact hN) r fun _ U hf => h.step nd i hDi ne U hf (.inl rfl) (by unfold OkN; rw [hl]; split <;> exact rfl) (fun _ _ _ m n _ _ _ hm => by rw [hl] at hm; cases hm)
/-- a pointer is told again -/
theorem rp_copy (h : RP w0 a0 N D gi Fin l L a w) (nd : D.Nodup) (hi : ops[i]? = some o) (hd : o.dst = some d) (hDi : D[i]? = some d) (hN : d < N) (ne : gi ≠ i) (hg : L gi = false) (hw : Region.wanted o (yielded ops a.tmps) = true) {j e : Nat} (hLj : L j = true) (hDj : D[j]? = some e) (r : (execOp a.eval o).run Tryd.prog w = .ok (.value (G a e)) w) (hl : dn l i = dn l j) :
    wpOp Tryd.prog ops Q i (fun a' w' => RP w0 a0 N D gi Fin l (fun j => j == i || L j) a' w') a w :=
  o_val hi hd hw (by rw [h.size]; exact hN) r fun _ U hf => h.step nd i hDi ne U hf (.inl rfl) (by
    have := h.got j e hLj hDj
    unfold OkN at this ⊢
    rw [hl]; exact this) (fun _ k f m n hk _ hf hm hn hmn => by
    rw [hl] at hm
    exact ⟨h.sep hg j k e f m n hLj hk hDj hf hm hn hmn, h.sep hg k j f e n m hk hLj hf hDj hn hm (Ne.symm hmn)⟩)
theorem RP.apart (h : RP w0 a0 N D gi Fin l L a w) (hg : L gi = false) {v : Value} (hv : vb v < w0.heap.size ∨ w.heap.size ≤ vb v) {j e n : Nat} (hj : L j = true) (he : D[j]? = some e) (hn : (dn l j).code = some n) :
    (vb v ≠ vb (G a e) ∨ vb v < w0.heap.size) ∧ (vb (G a e) ≠ vb v ∨ vb (G a e) < w0.heap.size) := by
  have g := h.got j e hj he
  unfold OkN at g
  rw [hg] at g
  have := Dn.low g hn
  omega
/-- a call that writes nothing old: what comes of it is a known value -/
theorem rp_read (h : RP w0 a0 N D gi Fin l L a w) (nd : D.Nodup) (hi : ops[i]? = some o) (hd : o.dst = some d) (hDi : D[i]? = some d) (hN : d < N) (ne : gi ≠ i) (hg : L gi = false) (hw : Region.wanted o (yielded ops a.tmps) = true) {n : Nat} {args : Array Value} (r : (execOp a.eval o).run Tryd.prog w = .ok (.enter n args) w)
    {u : Value} (hc : Calls Tryd.prog n args w fun e w' => e = .returned u ∧ Below w.heap.size w w') (hl : dn l i = .lit u) :
    wpOp Tryd.prog ops Q i (fun a' w' => RP w0 a0 N D gi Fin l (fun j => j == i || L j) a' w') a w :=
  o_enter (R := fun v w' => v = u ∧ Below w.heap.size w w') hi hd hw (by rw [h.size]; exact hN) r (hc.mono fun _ _ q => ⟨_, q.1, rfl, q.2⟩) fun v _ w' hR U hf => h.step nd i hDi ne U hf (.inr ⟨hg, below_step (h.old hg) hR.2, fun j e hj _ he => by
    have g := h.got j e hj he
    unfold OkN at g
    rw [hg] at g
    refine Dn.keep g fun hc => ?_
    obtain ⟨m, hm⟩ := Option.ne_none_iff_exists'.1 hc
    exact Kept.of hR.2 (Dn.low g hm)⟩) (by unfold OkN; rw [hl, hR.1]; split <;> exact rfl) (fun _ _ _ m n _ _ _ hm => by rw [hl] at hm; cases hm)
/-- a call that writes nothing old: what comes of it is a place, old or new -/
theorem rp_make (h : RP w0 a0 N D gi Fin l L a w) (nd : D.Nodup) (hi : ops[i]? = some o) (hd : o.dst = some d) (hDi : D[i]? = some d) (hN : d < N) (ne : gi ≠ i) (hg : L gi = false) (hw : Region.wanted o (yielded ops a.tmps) = true) {n : Nat} {args : Array Value} (r : (execOp a.eval o).run Tryd.prog w = .ok (.enter n args) w)
    {m : Nat} {P : Pl} (hc : Calls Tryd.prog n args w fun e w' => ∃ b o, e = .returned (.pointer (some ⟨b, o, none⟩)) ∧ P.is w' b o ∧ (b < w0.heap.size ∨ w.heap.size ≤ b) ∧ Below w.heap.size w w') (hl : dn l i = .ptr m P) :
    wpOp Tryd.prog ops Q i (fun a' w' => RP w0 a0 N D gi Fin l (fun j => j == i || L j) a' w') a w :=
  o_enter (R := fun v w' => ∃ b o, v = .pointer (some ⟨b, o, none⟩) ∧ P.is w' b o ∧ (b < w0.heap.size ∨ w.heap.size ≤ b) ∧ Below w.heap.size w w') hi hd hw (by rw [h.size]; exact hN) r (hc.mono fun _ _ q => by
    obtain ⟨b, o, rfl, q⟩ := q
    exact ⟨_, rfl, b, o, rfl, q⟩) fun v _ w' hR U hf => by
    obtain ⟨b, o', rfl, hP, hb, hB⟩ := hR
    exact h.step nd i hDi ne U hf (.inr ⟨hg, below_step (h.old hg) hB, fun j e hj _ he => by
      have g := h.got j e hj he
      unfold OkN at g
      rw [hg] at g
      refine Dn.keep g fun hc => ?_
      obtain ⟨m, hm⟩ := Option.ne_none_iff_exists'.1 hc
      exact Kept.of hB (Dn.low g hm)⟩) (by unfold OkN; rw [hl, hg]; exact ⟨b, o', rfl, hP⟩) (fun _ j e m n hj _ he _ hn _ => h.apart hg (v := .pointer (some ⟨b, o', none⟩)) hb hj he hn)
/-- a new place -/
theorem rp_new (h : RP w0 a0 N D gi Fin l L a w) (nd : D.Nodup) (hi : ops[i]? = some o) (hd : o.dst = some d) (hDi : D[i]? = some d) (hN : d < N) (ne : gi ≠ i) (hg : L gi = false) (hw : Region.wanted o (yielded ops a.tmps) = true) {blk : Obj} (r : (execOp a.eval o).run Tryd.prog w = .ok (.value (.pointer (some ⟨w.heap.size, 0, none⟩))) (w.alloc blk))
    {m q : Nat} (hz : ∀ w : World, ZA (w.alloc blk) w.heap.size q) (hl : dn l i = .new m q) :
    wpOp Tryd.prog ops Q i (fun a' w' => RP w0 a0 N D gi Fin l (fun j => j == i || L j) a' w') a w :=
  o_val hi hd hw (by rw [h.size]; exact hN) r fun _ U hf => by
    have hB := below_new w blk
    exact h.step nd i hDi ne U hf (.inr ⟨hg, below_step (h.old hg) hB, fun j e hj _ he => by
      have g := h.got j e hj he
      unfold OkN at g
      rw [hg] at g
      refine Dn.keep g fun hc => ?_
      obtain ⟨m, hm⟩ := Option.ne_none_iff_exists'.1 hc
      exact Kept.of hB (Dn.low g hm)⟩) (by unfold OkN; rw [hl, hg]; exact ⟨w.heap.size, rfl, hz w, (h.old hg).size⟩) (fun _ j e m n hj _ he _ hn _ => h.apart hg (v := .pointer (some ⟨w.heap.size, 0, none⟩)) (.inr (Nat.le_refl _)) hj he hn)
/-- a call that writes a new place, and tells it -/
theorem rp_put (h : RP w0 a0 N D gi Fin l L a w) (nd : D.Nodup) (hi : ops[i]? = some o) (hd : o.dst = some d) (hDi : D[i]? = some d) (hN : d < N) (ne : gi ≠ i) (hg : L gi = false) (hw : Region.wanted o (yielded ops a.tmps) = true) {n : Nat} {args : Array Value} (r : (execOp a.eval o).run Tryd.prog w = .ok (.enter n args) w)
    {j e b m q : Nat} {P : Pl} (hLj : L j = true) (hDj : D[j]? = some e) (hj : dn l j = .new m q) (hb : G a e = .pointer (some ⟨b, 0, none⟩))
    (hc : Calls Tryd.prog n args w fun e w' => e = .returned (.pointer (some ⟨b, 0, none⟩)) ∧ P.is w' b 0 ∧ Blk b w w') (hl : dn l i = .ptr m P)
    (al : ∀ k, L k = true → (dn l k).code = some m → dn l k = .new m q) :
    wpOp Tryd.prog ops Q i (fun a' w' => RP w0 a0 N D gi Fin l (fun j => j == i || L j) a' w') a w :=
  o_enter (R := fun v w' => v = .pointer (some ⟨b, 0, none⟩) ∧ P.is w' b 0 ∧ Blk b w w') hi hd hw (by rw [h.size]; exact hN) r (hc.mono fun _ _ q => ⟨_, q.1, rfl, q.2⟩) fun v _ w' hR U hf => by
    obtain ⟨rfl, hP, hB⟩ := hR
    obtain ⟨b', hb', hz, hlow⟩ := h.new hg hLj hDj hj
    rw [hb] at hb'
    cases hb'
    have hcj : (dn l j).code = some m := by rw [hj]; rfl
    refine h.step nd i hDi ne U hf (.inr ⟨hg, (h.old hg).trans (hB.below hlow (h.old hg).size), fun k f hk _ hf => ?_⟩) (by unfold OkN; rw [hl, hg]; exact ⟨b, 0, rfl, hP⟩) (fun _ k f m' n hk _ hf hm hn hmn => ?_)
    · have g := h.got k f hk hf
      unfold OkN at g
      rw [hg] at g
      by_cases hkm : (dn l k).code = some m
      · have hk2 := al k hk hkm
        obtain ⟨b2, e2, hz2, hlow2⟩ := h.new hg hk hf hk2
        rw [hk2]
        exact ⟨b2, e2, hz2.blk hB, hlow2⟩
      · refine Dn.keep g fun hc => ?_
        obtain ⟨m2, hm2⟩ := Option.ne_none_iff_exists'.1 hc
        have hne : m2 ≠ m := fun q => hkm (q ▸ hm2)
        have hs := h.sep hg k j f e m2 m hk hLj hf hDj hm2 hcj hne
        rw [hb, vb_ptr] at hs
        exact Kept.blk' hB hz (Dn.low g hm2) (by omega)
    · rw [hl] at hm
      cases hm
      have s1 := h.sep hg j k e f m n hLj hk hDj hf hcj hn hmn
      have s2 := h.sep hg k j f e n m hk hLj hf hDj hn hcj (Ne.symm hmn)
      rw [hb] at s1 s2
      exact ⟨s1, s2⟩
def Dn.isNew (m q : Nat) : Dn → Bool
  | .new m' q' => m' == m && q' == q
  | _ => false
/-- which slots have a code, told by a list -/
theorem al_of {m q : Nat} {bad : List Nat} (chk : (List.range l.length).all (fun k => (dn l k).code != some m || (dn l k).isNew m q || bad.contains k) = true) (hb : ∀ k ∈ bad, L k = false) : ∀ k, L k = true → (dn l k).code = some m → dn l k = .new m q := fun k hk hm => by
  by_cases hlt : k < l.length
  · have := List.all_eq_true.1 chk k (List.mem_range.2 hlt)
    simp only [Bool.or_eq_true, bne_iff_ne, ne_eq, hm, not_true_eq_false, false_or] at this
    rcases this with h | h
    · generalize dn l k = x at h ⊢
      cases x with
      | new m' q' => simp [Dn.isNew] at h; rw [h.1, h.2]
      | lit u => cases h
      | ptr m P => cases h
      | any => cases h
    · rw [hb k (by simpa using h)] at hk
      cases hk
  · unfold dn at hm
    rw [List.getElem?_eq_none (by omega)] at hm
    cases hm
theorem rp_last (h : RP w0 a0 N D gi Fin l L a w) (nd : D.Nodup) (hi : ops[gi]? = some o) (hd : o.dst = some d) (hDi : D[gi]? = some d) (hN : d < N) (hg : L gi = false) (hw : Region.wanted o (yielded ops a.tmps) = true) {n : Nat} {args : Array Value} (r : (execOp a.eval o).run Tryd.prog w = .ok (.enter n args) w)
    {u : Value} (hc : Calls Tryd.prog n args w fun e w' => e = .returned u ∧ Fin w') (hl : dn l gi = .lit u) :
    wpOp Tryd.prog ops Q gi (fun a' w' => RP w0 a0 N D gi Fin l (fun j => j == gi || L j) a' w') a w :=
  o_enter (R := fun v w' => v = u ∧ Fin w') hi hd hw (by rw [h.size]; exact hN) r (hc.mono fun _ _ q => ⟨_, q.1, rfl, q.2⟩) fun v _ w' hR U hf => h.last nd hDi hg U hf (by rw [hl]; exact hR.1) hR.2
end

section
variable {a : Act} {w : World} {d : Option Nat} {t : TypeId} {p : String} {af : Array Edge} {g : Option (Nat × Bool)}
theorem run_fldA {x : Operand} {b : Nat} (h : a.eval x = .pointer (some ⟨b, 0, none⟩)) : (execOp a.eval ⟨d, .fieldAddr 73 x 0, t, p, af, g⟩).run Tryd.prog w = .ok (.value (.pointer (some ⟨b, 0, none⟩))) w := by
  generalize a.eval = E at h ⊢
  simp [go_sem, h]
theorem run_newI : (execOp a.eval ⟨d, .alloc 71, t, p, af, g⟩).run Tryd.prog w = .ok (.value (.pointer (some ⟨w.heap.size, 0, none⟩))) (w.alloc (.cells #[.bool false, .slice none 0 0] 71)) := by
  generalize a.eval = E
  simp [go_sem]
theorem run_newR : (execOp a.eval ⟨d, .alloc 73, t, p, af, g⟩).run Tryd.prog w = .ok (.value (.pointer (some ⟨w.heap.size, 0, none⟩))) (w.alloc (.cells #[.bool false, .slice none 0 0, .bool false, .slice none 0 0] 73)) := by
  generalize a.eval = E
  simp [go_sem]
theorem run_fldB {x : Operand} {b : Nat} (h : a.eval x = .pointer (some ⟨b, 0, none⟩)) : (execOp a.eval ⟨d, .fieldAddr 73 x 1, t, p, af, g⟩).run Tryd.prog w = .ok (.value (.pointer (some ⟨b, 2, none⟩))) w := by
  generalize a.eval = E at h ⊢
  simp [go_sem, h]
end
end Go.Proofs.YtibkemolmpcdcaaDoor

/- Ratios as such: what is N over D; den of any. -/
namespace Go.Proofs.YtibkemolmpcdcaaDoor
open Go.RowKit

/-- how many words a whole number has -/
def Ln (x : Int) : Nat := (Bg.wd x.natAbs).length
theorem Ln_mono {x y : Int} (h : x.natAbs ≤ y.natAbs) : Ln x ≤ Ln y := Bg.wd_mono h
theorem Ln_lt (x : Int) : x.natAbs < 4294967296 ^ Ln x := Bg.wd_lt _
theorem Ln_le {x : Int} {k : Nat} (h : x.natAbs < 4294967296 ^ k) : Ln x ≤ k := Bg.wd_len_le _ _ h
theorem Ln_mul (x y : Int) : Ln (x * y) ≤ Ln x + Ln y := by
  apply Ln_le
  rw [Int.natAbs_mul, Nat.pow_add]
  exact Nat.mul_lt_mul'' (Ln_lt x) (Ln_lt y)
theorem Ln_add (x y : Int) : Ln (x + y) ≤ Ln x + Ln y + 1 := by
  apply Ln_le
  have h1 := Ln_lt x
  have h2 := Ln_lt y
  have h3 := Int.natAbs_add_le x y
  have h4 : 4294967296 ^ Ln x ≤ 4294967296 ^ (Ln x + Ln y) := Nat.pow_le_pow_right (by omega) (by omega)
  have h5 : 4294967296 ^ Ln y ≤ 4294967296 ^ (Ln x + Ln y) := Nat.pow_le_pow_right (by omega) (by omega)
  rw [Nat.pow_succ]
  omega
theorem Ln_neg (x : Int) : Ln (-x) = Ln x := by unfold Ln; rw [Int.natAbs_neg]
theorem Ln_small {x : Int} (h : x.natAbs < 18446744073709551616) : Ln x ≤ 2 := Ln_le (by omega)

/-- n over d: the lower part may lack where it is 1 -/
structure RQ (w : World) (p : Nat) (n d : Int) : Prop where
  num : IA w p 0 n
  den : IA w p 2 d ∨ (IA w p 2 0 ∧ d = 1)
  pos : 0 < d
theorem RA.q {w : World} {p : Nat} {n d : Int} (h : RA w p n d) : RQ w p n d := ⟨h.num, .inl h.den, h.pos⟩
theorem RQ.place {w : World} {p : Nat} {n d : Int} (h : RQ w p n d) : ZA w p 2 := by
  rcases h.den with h | ⟨h, _⟩
  · exact h.place
  · exact h.place
theorem RQ.kept {w w' : World} {p : Nat} {n d : Int} (h : RQ w p n d) (k : Kept p w w') : RQ w' p n d :=
  ⟨h.num.kept k, h.den.elim (fun h => .inl (h.kept k)) (fun h => .inr ⟨h.1.kept k, h.2⟩), h.pos⟩
theorem RQ.below {w w' : World} {p : Nat} {n d : Int} (h : RQ w p n d) (hb : Below w.heap.size w w') : RQ w' p n d := h.kept (Kept.of hb h.place.low)

set_option maxHeartbeats 1000000 in
theorem den_q (p : Nat) (n d : Int) (w : World) (h : RQ w p n d) :
    Calls Tryd.prog 51 #[.pointer (some ⟨p, 0, none⟩)] w fun e w' => ∃ b o, e = .returned (.pointer (some ⟨b, o, none⟩)) ∧ IA w' b o d ∧ ((b = p ∧ o = 2) ∨ w.heap.size ≤ b) ∧ Below w.heap.size w w' := by
  rcases h.den with hd | ⟨hd, rfl⟩
  · refine (den_any p n d w ⟨h.num, hd, h.pos⟩).mono ?_
    rintro e w' ⟨rfl, rfl⟩
    exact ⟨p, 2, rfl, hd, .inl ⟨rfl, rfl⟩, Below.refl _ _⟩
  · obtain ⟨v, x1, x2⟩ := hd.abs
    obtain ⟨q, c, rfl, -⟩ := id x2
    have e0 : (Bg.wd (0 : Int).natAbs).length = 0 := by simp [Bg.wd_zero]
    rw [e0] at x1
    have NI := hide (newInt_any 1 w (by omega) (by omega))
    clear x2 h hd
    go_enter Tryd.func51, Tryd.ntmps51
    go_wp2_with fail
    refine (unhide NI).mono ?_
    rintro e w1 ⟨rfl, h1, hb⟩
    have H1 := hide h1
    have HB := hide hb
    clear h1 hb
    go_wp2
    go_ret
    exact ⟨_, 0, rfl, unhide H1, .inr (Nat.le_refl _), unhide HB⟩

/-- the ratio N over D, D not 0 -/
def RV (w : World) (p : Nat) (N D : Int) : Prop := ∃ n d, RQ w p n d ∧ n * D = N * d ∧ d.natAbs ≤ D.natAbs
theorem RV.place {w : World} {p : Nat} {N D : Int} (h : RV w p N D) : ZA w p 2 := by
  obtain ⟨n, d, h, _⟩ := h
  exact h.place
theorem RV.kept {w w' : World} {p : Nat} {N D : Int} (h : RV w p N D) (k : Kept p w w') : RV w' p N D := by
  obtain ⟨n, d, h, h2⟩ := h
  exact ⟨n, d, h.kept k, h2⟩
theorem RV.below {w w' : World} {p : Nat} {N D : Int} (h : RV w p N D) (hb : Below w.heap.size w w') : RV w' p N D := h.kept (Kept.of hb h.place.low)
theorem ratio_le {n d N D : Int} (hD : D ≠ 0) (e : n * D = N * d) (hd : d.natAbs ≤ D.natAbs) : n.natAbs ≤ N.natAbs := by
  have h : n.natAbs * D.natAbs = N.natAbs * d.natAbs := by rw [← Int.natAbs_mul, ← Int.natAbs_mul, e]
  have h2 : n.natAbs * D.natAbs ≤ N.natAbs * D.natAbs := by rw [h]; exact Nat.mul_le_mul_left _ hd
  exact Nat.le_of_mul_le_mul_right h2 (by omega)
/-- from what stands there to what it is -/
theorem RV.via {w : World} {p : Nat} {n d N D : Int} (h : RV w p n d) (hd : d ≠ 0) (e : n * D = N * d) (l : d.natAbs ≤ D.natAbs) : RV w p N D := by
  obtain ⟨n', d', h', e', l'⟩ := h
  exact ⟨n', d', h', ratio_via hd e' e, by omega⟩
/-- a ratio in its place -/
def pR (N D : Int) : Pl := ⟨fun w b o => o = 0 ∧ RV w b N D, fun h => h.2.place.low, fun h k => ⟨h.1, h.2.kept k⟩⟩
theorem ZA.up {w : World} {b o o2 : Nat} (h : ZA w b o) (l : o2 ≤ o) : ZA w b o2 := by
  obtain ⟨c, t, h1, h2, h3⟩ := h
  exact ⟨c, t, h1, h2, by omega⟩
end Go.Proofs.YtibkemolmpcdcaaDoor
