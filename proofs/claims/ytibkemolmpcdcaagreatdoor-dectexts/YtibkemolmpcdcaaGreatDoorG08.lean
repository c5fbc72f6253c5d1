/- Walks: DivMod of whole numbers. -/
import Derived.Test.YtibkemolmpcdcaaGreatDoorG07
import Derived.Deep.Cut
namespace Go.Proofs.YtibkemolmpcdcaaGreatDoor
open Go.RowKit

theorem div_uniq {x y q r : Int} (hy : y ≠ 0) (h : x = y * q + r) (h0 : 0 ≤ r) (h1 : r < (y.natAbs : Int)) : x / y = q ∧ x % y = r := by
  have e : x % y = r := by
    rw [h, Int.mul_add_emod_self_left]
    rcases Int.lt_or_le y 0 with hn | hn
    · have : r % (-y) = r := Int.emod_eq_of_lt h0 (by omega)
      rwa [Int.emod_neg] at this
    · exact Int.emod_eq_of_lt h0 (by omega)
  refine ⟨?_, e⟩
  have g := Int.mul_ediv_add_emod x y
  rw [e, h] at g
  have g2 : y * ((y * q + r) / y) = y * q := by omega
  rw [h]
  exact Int.eq_of_mul_eq_mul_left hy g2
theorem tmod_facts {x y : Int} (hy : y ≠ 0) : x = y * x.tdiv y + x.tmod y ∧ (x.tmod y).natAbs < y.natAbs := by
  refine ⟨(Int.mul_tdiv_add_tmod x y).symm, ?_⟩
  have h := rem_sign x y
  have l : x.natAbs % y.natAbs < y.natAbs := Nat.mod_lt _ (by omega)
  split at h <;> omega
theorem dm_pos {x y : Int} (hy : y ≠ 0) (h : ¬ x.tmod y < 0) : x / y = x.tdiv y ∧ x % y = x.tmod y := by
  obtain ⟨e, l⟩ := tmod_facts (x := x) hy
  exact div_uniq hy e (by omega) (by omega)
theorem dm_neg {x y : Int} (hy : y < 0) (h : x.tmod y < 0) : x / y = x.tdiv y + 1 ∧ x % y = x.tmod y + -y := by
  obtain ⟨e, l⟩ := tmod_facts (x := x) (y := y) (by omega)
  refine div_uniq (by omega) ?_ (by omega) (by omega)
  rw [Int.mul_add]
  omega
theorem dm_neg2 {x y : Int} (hy : 0 < y) (h : x.tmod y < 0) : x / y = x.tdiv y + -1 ∧ x % y = x.tmod y + y := by
  obtain ⟨e, l⟩ := tmod_facts (x := x) (y := y) (by omega)
  refine div_uniq (by omega) ?_ (by omega) (by omega)
  rw [Int.mul_add]
  omega
/-- all but two blocks is as it was -/
structure Bl2 (b m : Nat) (w w' : World) : Prop where
  os : w'.os = w.os
  tape : w'.tape = w.tape
  output : w'.output = w.output
  size : w.heap.size ≤ w'.heap.size
  block : ∀ k, k < w.heap.size → k ≠ b → k ≠ m → w'.heap[k]? = w.heap[k]?
  self : ∀ (k : Nat) c t, w.heap[k]? = some (.cells c t (0, 0)) → ∃ c', w'.heap[k]? = some (.cells c' t (0, 0)) ∧ c'.size = c.size
theorem Out.selfk {b o : Nat} {w w' : World} (h : Out b o w w') : ∀ (k : Nat) c t, w.heap[k]? = some (.cells c t (0, 0)) → ∃ c', w'.heap[k]? = some (.cells c' t (0, 0)) ∧ c'.size = c.size := fun k c t hk => by
  by_cases e : k = b
  · subst e
    obtain ⟨c', h1, h2, _⟩ := h.self c t hk
    exact ⟨c', h1, h2⟩
  · exact ⟨c, (h.block k (Array.getElem?_eq_some_iff.1 hk).1 e).trans hk, rfl⟩
theorem Bl2.of {b m : Nat} {w w' : World} (h : Below w.heap.size w w') : Bl2 b m w w' := ⟨h.os, h.tape, h.output, h.size, fun k hk _ _ => h.block k hk, fun k c _ hk => ⟨c, (h.block k (Array.getElem?_eq_some_iff.1 hk).1).trans hk, rfl⟩⟩
theorem Bl2.out1 {b m o : Nat} {w w' : World} (h : Out b o w w') : Bl2 b m w w' := ⟨h.os, h.tape, h.output, h.size, fun k hk h1 _ => h.block k hk h1, h.selfk⟩
theorem Bl2.out2 {b m o : Nat} {w w' : World} (h : Out m o w w') : Bl2 b m w w' := ⟨h.os, h.tape, h.output, h.size, fun k hk _ h1 => h.block k hk h1, h.selfk⟩
theorem Bl2.trans {b m : Nat} {w1 w2 w3 : World} (h : Bl2 b m w1 w2) (k : Bl2 b m w2 w3) : Bl2 b m w1 w3 :=
  ⟨k.os.trans h.os, k.tape.trans h.tape, k.output.trans h.output, Nat.le_trans h.size k.size, fun i hi h1 h2 => (k.block i (Nat.lt_of_lt_of_le hi h.size) h1 h2).trans (h.block i hi h1 h2), fun i c t hi => by
    obtain ⟨c2, e2, s2⟩ := h.self i c t hi
    obtain ⟨c3, e3, s3⟩ := k.self i c2 t e2
    exact ⟨c3, e3, s3.trans s2⟩⟩
theorem len_small {n : Nat} (h : n < 18446744073709551616) : (Bg.wd n).length ≤ 100000 := Nat.le_trans (Bg.wd_len_le 2 n (by omega)) (by omega)

set_option maxRecDepth 100000 in
set_option maxHeartbeats 4000000 in
theorem divMod_any (b o bx ox b2 oy bm om : Nat) (x y : Int) (w : World) (hz : ZA w b o) (hm : ZA w bm om) (ne : b ≠ bm ∨ o + 1 < om ∨ om + 1 < o) (hx : IA w bx ox x) (hy : IA w b2 oy y) (y0 : y ≠ 0) (lx : (Bg.wd x.natAbs).length ≤ 90000) (ly : (Bg.wd y.natAbs).length ≤ 90000) :
    Calls Tryz.prog 68 #[.pointer (some ⟨b, o, none⟩), .pointer (some ⟨bx, ox, none⟩), .pointer (some ⟨b2, oy, none⟩), .pointer (some ⟨bm, om, none⟩)] w fun e w' => e = .returned (.tuple #[.pointer (some ⟨b, o, none⟩), .pointer (some ⟨bm, om, none⟩)]) ∧ IA w' b o (x / y) ∧ IA w' bm om (x % y) ∧ Bl2 b bm w w' := by
  have N := below_new w (.cells #[.bool false, .slice none 0 0] 43)
  have ST := hide (iset_any w.heap.size 0 b2 oy y _ (ZA.new w) (hy.below N) (by omega))
  have lz := hz.low
  have lm := hm.low
  have lbx := hx.place.low
  have lby := hy.place.low
  have tf := tmod_facts (x := x) y0
  have lq : (Bg.wd (x.tdiv y).natAbs).length ≤ 100000 := by
    have : (x.tdiv y).natAbs ≤ x.natAbs := by rw [Int.natAbs_tdiv]; exact Nat.div_le_self _ _
    exact Nat.le_trans (Bg.wd_mono this) (by omega)
  have lr : (Bg.wd (x.tmod y).natAbs).length ≤ 100000 := Nat.le_trans (Bg.wd_mono (Nat.le_of_lt tf.2)) (by omega)
  have HZ := hide hz
  have HM := hide hm
  have HX := hide hx
  have HY := hide hy
  have HN := hide N
  clear hz hm hx hy N tf
  go_enter Tryz.func68, Tryz.ntmps68
  go_wp2_with fail
  refine (unhide ST).mono ?_
  rintro e w1 ⟨rfl, hd1, ho1⟩
  have zn := ZA.new w
  have z1 := ((unhide HZ).below (unhide HN)).out ho1
  have m1 := ((unhide HM).below (unhide HN)).out ho1
  have x1 := ((unhide HX).below (unhide HN)).out ho1 zn (.inl (by omega))
  have y1 := ((unhide HY).below (unhide HN)).out ho1 zn (.inl (by omega))
  have HW1 : Hid (Bl2 b bm w w1) := hide (Bl2.of ((unhide HN).trans (ho1.below (Nat.le_refl _) (by simp))))
  have QR := hide (quoRem_any b o bx ox b2 oy bm om x y w1 z1 m1 ne x1 y1 y0 (by omega) (by omega))
  have HZ1 := hide z1
  have HM1 := hide m1
  have HD1 := hide hd1
  clear hd1 ho1 zn z1 m1 x1 y1 ST HX HY HZ HM HN
  go_wp2_with fail
  refine (unhide QR).mono ?_
  rintro e w3 ⟨rfl, hi, hj, w2, ho2, ho3⟩
  have d2 := (unhide HD1).out ho2 (unhide HZ1) (.inl (by omega))
  have m2 := (unhide HM1).out ho2
  have HD := hide (d2.out ho3 m2 (.inl (by omega)))
  have HW3 : Hid (Bl2 b bm w w3) := hide ((unhide HW1).trans ((Bl2.out1 ho2).trans (Bl2.out2 ho3)))
  have HI := hide hi
  have HJ := hide hj
  have cm := hj.neg
  have cd := (unhide HD).neg
  have hs3 := (unhide HW3).size
  clear hi hj ho2 ho3 d2 m2 QR HZ1 HM1 HD1 HW1
  by_cases hneg : x.tmod y < 0
  · rw [decide_eq_true hneg] at cm
    by_cases hyn : y < 0
    · rw [decide_eq_true hyn] at cd
      have HE := hide (dm_neg (x := x) hyn hneg)
      have NI := hide (newInt_any 1 w3 (by omega) (by omega))
      go_wp2_with fail
      refine (unhide NI).mono ?_
      rintro e w4 ⟨rfl, h1, hb4⟩
      have z4 := (unhide HI).below hb4
      have AD := hide (iadd_any b o b o w3.heap.size 0 (x.tdiv y) 1 w4 z4.place z4 h1 lq (len_small (by decide)))
      have HJ4 := hide ((unhide HJ).below hb4)
      have HD4 := hide ((unhide HD).below hb4)
      have HZ4 := hide z4.place
      have HW4 := hide ((unhide HW3).trans (Bl2.of hb4))
      clear h1 hb4 z4
      go_wp2_with fail
      refine (unhide AD).mono ?_
      rintro e w5 ⟨rfl, hi5, ho5⟩
      have j5 := (unhide HJ4).out ho5 (unhide HZ4) (by omega)
      have SB := hide (isub_any bm om bm om w.heap.size 0 (x.tmod y) y w5 j5.place j5 ((unhide HD4).out ho5 (unhide HZ4) (.inl (by omega))) lr (by omega))
      have HW5 := hide ((unhide HW4).trans (Bl2.out1 ho5))
      have HI5 := hide hi5
      have HM5 := hide j5.place
      clear hi5 ho5 j5
      go_wp2_with fail
      refine (unhide SB).mono ?_
      rintro e w6 ⟨rfl, hj6, ho6⟩
      have HJ6 := hide hj6
      have HI6 := hide ((unhide HI5).out ho6 (unhide HM5) ne)
      have HW6 := hide ((unhide HW5).trans (Bl2.out2 ho6))
      clear hj6 ho6
      go_wp2
      refine bodyPost_ret (v := .tuple #[.pointer (some ⟨b, o, none⟩), .pointer (some ⟨bm, om, none⟩)]) (by simp [results, Tryz.results68, go_sem]) rfl ?_
      rw [(unhide HE).1, (unhide HE).2]
      exact ⟨rfl, unhide HI6, unhide HJ6, unhide HW6⟩
    · rw [decide_eq_false hyn] at cd
      have HE := hide (dm_neg2 (x := x) (y := y) (by omega) hneg)
      have NI := hide (newInt_any 1 w3 (by omega) (by omega))
      go_wp2_with fail
      refine (unhide NI).mono ?_
      rintro e w4 ⟨rfl, h1, hb4⟩
      have z4 := (unhide HI).below hb4
      have AD := hide (isub_any b o b o w3.heap.size 0 (x.tdiv y) 1 w4 z4.place z4 h1 lq (len_small (by decide)))
      have HJ4 := hide ((unhide HJ).below hb4)
      have HD4 := hide ((unhide HD).below hb4)
      have HZ4 := hide z4.place
      have HW4 := hide ((unhide HW3).trans (Bl2.of hb4))
      clear h1 hb4 z4
      go_wp2_with fail
      refine (unhide AD).mono ?_
      rintro e w5 ⟨rfl, hi5, ho5⟩
      have j5 := (unhide HJ4).out ho5 (unhide HZ4) (by omega)
      have SB := hide (iadd_any bm om bm om w.heap.size 0 (x.tmod y) y w5 j5.place j5 ((unhide HD4).out ho5 (unhide HZ4) (.inl (by omega))) lr (by omega))
      have HW5 := hide ((unhide HW4).trans (Bl2.out1 ho5))
      have HI5 := hide hi5
      have HM5 := hide j5.place
      clear hi5 ho5 j5
      go_wp2_with fail
      refine (unhide SB).mono ?_
      rintro e w6 ⟨rfl, hj6, ho6⟩
      have HJ6 := hide hj6
      have HI6 := hide ((unhide HI5).out ho6 (unhide HM5) ne)
      have HW6 := hide ((unhide HW5).trans (Bl2.out2 ho6))
      clear hj6 ho6
      go_wp2
      refine bodyPost_ret (v := .tuple #[.pointer (some ⟨b, o, none⟩), .pointer (some ⟨bm, om, none⟩)]) (by simp [results, Tryz.results68, go_sem]) rfl ?_
      rw [(unhide HE).1, (unhide HE).2]
      exact ⟨rfl, unhide HI6, unhide HJ6, unhide HW6⟩
  · rw [decide_eq_false hneg] at cm
    have HE := hide (dm_pos y0 hneg)
    go_wp2
    refine bodyPost_ret (v := .tuple #[.pointer (some ⟨b, o, none⟩), .pointer (some ⟨bm, om, none⟩)]) (by simp [results, Tryz.results68, go_sem]) rfl ?_
    rw [(unhide HE).1, (unhide HE).2]
    exact ⟨rfl, unhide HI, unhide HJ, unhide HW3⟩
end Go.Proofs.YtibkemolmpcdcaaGreatDoor

/- Walks: Mod, Cmp of whole numbers. -/
namespace Go.Proofs.YtibkemolmpcdcaaGreatDoor
open Go.RowKit

theorem bl2_new {w wa w' : World} {b m : Nat} (h0 : Below w.heap.size w wa) (h1 : Bl2 b m wa w') (hb : w.heap.size ≤ b) : Bl2 m m w w' := by
  have s1 := h0.size
  refine ⟨h1.os.trans h0.os, h1.tape.trans h0.tape, h1.output.trans h0.output, Nat.le_trans s1 h1.size, fun k hk hk1 _ => ?_, fun k c t hk => ?_⟩
  · rw [h1.block k (by omega) (by omega) hk1, h0.block k hk]
  · exact h1.self k c t ((h0.block k (Array.getElem?_eq_some_iff.1 hk).1).trans hk)

set_option maxHeartbeats 2000000 in
theorem imod_any (b o bx ox b2 oy : Nat) (x y : Int) (w : World) (hz : ZA w b o) (hx : IA w bx ox x) (hy : IA w b2 oy y) (y0 : y ≠ 0) (lx : (Bg.wd x.natAbs).length ≤ 90000) (ly : (Bg.wd y.natAbs).length ≤ 90000) :
    Calls Tryz.prog 41 #[.pointer (some ⟨b, o, none⟩), .pointer (some ⟨bx, ox, none⟩), .pointer (some ⟨b2, oy, none⟩)] w fun e w' => e = .returned (.pointer (some ⟨b, o, none⟩)) ∧ IA w' b o (x % y) ∧ Bl2 b b w w' := by
  have N := below_new w (.cells #[.bool false, .slice none 0 0] 43)
  have hbl := hz.low
  have Q := hide (divMod_any w.heap.size 0 bx ox b2 oy b o x y _ (ZA.new w) (hz.below N) (.inl (by omega)) (hx.below N) (hy.below N) y0 lx ly)
  have HN := hide N
  clear hz hx hy N
  go_enter Tryz.func41, Tryz.ntmps41
  go_wp2_with fail
  refine (unhide Q).mono ?_
  rintro e w2 ⟨rfl, -, hi, hb⟩
  have HI := hide hi
  have HB := hide hb
  clear hi hb
  go_wp2
  go_ret
  exact ⟨rfl, unhide HI, bl2_new (unhide HN) (unhide HB) (Nat.le_refl _)⟩

def icmp (x y : Int) : Int := if x < y then -1 else if x = y then 0 else 1
theorem icmp_pos {x y : Int} (hx : 0 ≤ x) (hy : 0 ≤ y) : icmp x y = Bg.cmpN x.natAbs y.natAbs := by
  unfold icmp
  rcases Int.lt_trichotomy x y with h | h | h
  · rw [if_pos h, Bg.cmpN_lt (by omega)]
  · rw [if_neg (by omega), if_pos h, Bg.cmpN_eq (by omega)]
  · rw [if_neg (by omega), if_neg (by omega), Bg.cmpN_gt (by omega)]
theorem icmp_neg {x y : Int} (hx : x < 0) (hy : y < 0) : icmp x y = -Bg.cmpN x.natAbs y.natAbs := by
  unfold icmp
  rcases Int.lt_trichotomy x y with h | h | h
  · rw [if_pos h, Bg.cmpN_gt (by omega)]
  · rw [if_neg (by omega), if_pos h, Bg.cmpN_eq (by omega)]
    rfl
  · rw [if_neg (by omega), if_neg (by omega), Bg.cmpN_lt (by omega)]
    rfl
theorem cmpN_bd (a b : Nat) : -1 ≤ Bg.cmpN a b ∧ Bg.cmpN a b ≤ 1 := by
  unfold Bg.cmpN
  split
  · omega
  · split <;> omega

set_option maxHeartbeats 4000000 in
theorem icmp_any (bx ox b2 oy : Nat) (x y : Int) (w : World) (hx : IA w bx ox x) (hy : IA w b2 oy y) :
    Calls Tryz.prog 92 #[.pointer (some ⟨bx, ox, none⟩), .pointer (some ⟨b2, oy, none⟩)] w fun e w' => e = .returned (.int .i64 (icmp x y)) ∧ Below w.heap.size w w' := by
  obtain ⟨vx, x1, x2⟩ := hx.abs
  obtain ⟨vy, y1, y2⟩ := hy.abs
  obtain ⟨px, cx, rfl, -⟩ := id x2
  obtain ⟨py, cy, rfl, -⟩ := id y2
  have xn := hx.neg
  have yn := hy.neg
  have bxl := hx.place.low
  have CM := hide (fun (wx : World) (hb : Below w.heap.size w wx) => cmp_any _ _ x.natAbs y.natAbs wx (x2.below hb) (y2.below hb))
  have IP := hide (fun h1 h2 => icmp_pos (x := x) (y := y) h1 h2)
  have IN := hide (fun h1 h2 => icmp_neg (x := x) (y := y) h1 h2)
  obtain ⟨c1, c2⟩ := cmpN_bd x.natAbs y.natAbs
  generalize Bg.cmpN x.natAbs y.natAbs = cm at *
  clear x2 y2 hx hy
  go_enter Tryz.func92, Tryz.ntmps92
  by_cases hxn : x < 0
  · rw [decide_eq_true hxn] at xn
    by_cases hyn : y < 0
    · rw [decide_eq_true hyn] at yn
      have HS := hide (unhide IN hxn hyn)
      go_wp2_with fail
      go_region
      all_goals
        go_wp2_with fail
      go_region_with (
        go_at_call 67
        (refine (unhide CM _ ?_).mono ?_; · exact (by repeat (first | exact Below.refl _ _ | apply Below.drew)))
        rintro e w1 ⟨rfl, hb1⟩
        replace hb1 : Below w.heap.size w w1 := below_via (by repeat (first | exact Below.refl _ _ | apply Below.drew)) hb1
        have xn1 := (hb1.cell (p := ⟨bx, ox, none⟩) bxl).trans xn)
      all_goals
        have HB := hide hb1
        clear hb1
        go_wp2
        go_ret
        rw [unhide HS]
        exact ⟨rfl, by repeat (first | exact unhide HB | apply Below.drew)⟩
    · rw [decide_eq_false hyn] at yn
      have HS : Hid (icmp x y = -1) := hide (by unfold icmp; rw [if_pos (by omega)])
      go_wp2_with fail
      go_region
      all_goals
        go_wp2
        go_ret
        rw [unhide HS]
        exact ⟨rfl, by repeat (first | exact Below.refl _ _ | apply Below.drew)⟩
  · rw [decide_eq_false hxn] at xn
    by_cases hyn : y < 0
    · rw [decide_eq_true hyn] at yn
      have HS : Hid (icmp x y = 1) := hide (by unfold icmp; rw [if_neg (by omega), if_neg (by omega)])
      go_wp2_with fail
      go_region
      all_goals
        go_wp2
        go_ret
        rw [unhide HS]
        exact ⟨rfl, by repeat (first | exact Below.refl _ _ | apply Below.drew)⟩
    · rw [decide_eq_false hyn] at yn
      have HS := hide (unhide IP (by omega) (by omega))
      go_wp2_with fail
      go_region
      all_goals
        go_wp2_with fail
      go_region_with (
        go_at_call 67
        (refine (unhide CM _ ?_).mono ?_; · exact (by repeat (first | exact Below.refl _ _ | apply Below.drew)))
        rintro e w1 ⟨rfl, hb1⟩
        replace hb1 : Below w.heap.size w w1 := below_via (by repeat (first | exact Below.refl _ _ | apply Below.drew)) hb1
        have xn1 := (hb1.cell (p := ⟨bx, ox, none⟩) bxl).trans xn)
      all_goals
        have HB := hide hb1
        clear hb1
        go_wp2
        go_ret
        rw [unhide HS]
        exact ⟨rfl, by repeat (first | exact unhide HB | apply Below.drew)⟩
end Go.Proofs.YtibkemolmpcdcaaGreatDoor

/- Ratios in memory; den. -/
namespace Go.Proofs.YtibkemolmpcdcaaGreatDoor
open Go.RowKit

/-- all but one block is as it was; that one has as many cells of its type -/
structure Blk (p : Nat) (w w' : World) : Prop where
  os : w'.os = w.os
  tape : w'.tape = w.tape
  output : w'.output = w.output
  size : w.heap.size ≤ w'.heap.size
  block : ∀ k, k < w.heap.size → k ≠ p → w'.heap[k]? = w.heap[k]?
  self : ∀ c t, w.heap[p]? = some (.cells c t (0, 0)) → ∃ c', w'.heap[p]? = some (.cells c' t (0, 0)) ∧ c'.size = c.size
theorem Blk.refl (p : Nat) (w : World) : Blk p w w := ⟨rfl, rfl, rfl, Nat.le_refl _, fun _ _ _ => rfl, fun c _ h => ⟨c, h, rfl⟩⟩
theorem Blk.trans {p : Nat} {w1 w2 w3 : World} (h : Blk p w1 w2) (k : Blk p w2 w3) : Blk p w1 w3 :=
  ⟨k.os.trans h.os, k.tape.trans h.tape, k.output.trans h.output, Nat.le_trans h.size k.size, fun i hi hb => (k.block i (Nat.lt_of_lt_of_le hi h.size) hb).trans (h.block i hi hb), fun c t hc => by
    obtain ⟨c2, h2, s2⟩ := h.self c t hc
    obtain ⟨c3, h3, s3⟩ := k.self c2 t h2
    exact ⟨c3, h3, s3.trans s2⟩⟩
theorem Blk.of {p : Nat} {w w' : World} (h : Below w.heap.size w w') : Blk p w w' :=
  ⟨h.os, h.tape, h.output, h.size, fun k hk _ => h.block k hk, fun c _ hc => ⟨c, (h.block p (Array.getElem?_eq_some_iff.1 hc).1).trans hc, rfl⟩⟩
theorem Out.blk {p o : Nat} {w w' : World} (h : Out p o w w') : Blk p w w' :=
  ⟨h.os, h.tape, h.output, h.size, h.block, fun c t hc => by
    obtain ⟨c', g1, g2, _⟩ := h.self c t hc
    exact ⟨c', g1, g2⟩⟩
theorem Bl2.blk {p : Nat} {w w' : World} (h : Bl2 p p w w') : Blk p w w' := ⟨h.os, h.tape, h.output, h.size, fun k hk h1 => h.block k hk h1 h1, fun c t hc => h.self p c t hc⟩
theorem Blk.below {p B : Nat} {w w' : World} (h : Blk p w w') (hb : B ≤ p) (hw : B ≤ w.heap.size) : Below B w w' :=
  ⟨h.os, h.tape, h.output, h.size, fun k hk => h.block k (by omega) (by omega)⟩
theorem Blk.kw {p o : Nat} {w w' : World} (h : Blk p w w') (hz : ZA w p o) : KW w w' := fun k cs hk => by
  by_cases e : k = p
  · subst e
    obtain ⟨c, t, h1, h2, _⟩ := hz
    unfold RW at hk
    rw [hk] at h1
    cases h1
    exact absurd rfl h2
  · exact (h.block k hk.low e).trans hk
theorem ZA.blk {w w' : World} {b o p : Nat} (h : ZA w b o) (hb : Blk p w w') : ZA w' b o := by
  have l := h.low
  obtain ⟨c, t, h1, h2, h3⟩ := h
  by_cases e : b = p
  · subst e
    obtain ⟨c', g1, g2⟩ := hb.self c t h1
    exact ⟨c', t, g1, h2, by omega⟩
  · exact ⟨c, t, (hb.block b l e).trans h1, h2, h3⟩
theorem IA.blk {w w' : World} {b o p : Nat} {z : Int} (h : IA w b o z) (hb : Blk p w w') {q : Nat} (hz : ZA w p q) (ne : b ≠ p) : IA w' b o z := by
  have l := h.place.low
  obtain ⟨v, h1, hw⟩ := h.abs
  have key : ∀ i, w'.cell? ⟨b, i, none⟩ = w.cell? ⟨b, i, none⟩ := fun i => World.cell?_of_block (w := w) (hb.block b l ne)
  exact ⟨h.place.blk hb, (key o).trans h.neg, v, (key (o + 1)).trans h1, hw.keep (hb.kw hz)⟩

/-- a ratio in its block: n over d -/
structure RA (w : World) (p : Nat) (n d : Int) : Prop where
  num : IA w p 0 n
  den : IA w p 2 d
  pos : 0 < d
theorem RA.below {w w' : World} {p : Nat} {n d : Int} (h : RA w p n d) (hb : Below w.heap.size w w') : RA w' p n d := ⟨h.num.below hb, h.den.below hb, h.pos⟩
theorem RA.blk {w w' : World} {p b q : Nat} {n d : Int} (h : RA w p n d) (hb : Blk b w w') (hz : ZA w b q) (ne : p ≠ b) : RA w' p n d := ⟨h.num.blk hb hz ne, h.den.blk hb hz ne, h.pos⟩

set_option maxHeartbeats 1000000 in
theorem den_any (p : Nat) (n d : Int) (w : World) (h : RA w p n d) :
    Calls Tryz.prog 32 #[.pointer (some ⟨p, 0, none⟩)] w fun e w' => e = .returned (.pointer (some ⟨p, 2, none⟩)) ∧ w' = w := by
  obtain ⟨v, x1, x2⟩ := h.den.abs
  obtain ⟨q, c, rfl, -⟩ := id x2
  have hl := wd_pos_len (n := d.natAbs) (by have := h.pos; omega)
  have g1 : (((Bg.wd d.natAbs).length : Int) == 0) = false := by rw [beq_eq_false_iff_ne]; omega
  clear x2 h
  go_enter Tryz.func32, Tryz.ntmps32
  go_wp2
  go_ret
  exact ⟨rfl, rfl⟩

theorem ratio_via {n d n1 d1 n' d' : Int} (h1 : d1 ≠ 0) (e1 : n' * d1 = n1 * d') (e2 : n1 * d = n * d1) : n' * d = n * d' := by
  have : d1 * (n' * d) = d1 * (n * d') := by
    have a : d1 * (n' * d) = n' * d1 * d := by grind
    have b : d1 * (n * d') = n * d1 * d' := by grind
    rw [a, b, e1, ← e2]
    grind
  exact Int.eq_of_mul_eq_mul_left h1 this
theorem put_abs {w : World} {p G : Nat} {x y : Int} {q u : Value} (hx : IA w p 0 x) (hy : IA w p 2 y) (hq : WS w q (Bg.wd (x.natAbs / G))) (hu : WS w u (Bg.wd (y.natAbs / G))) (x0 : x ≠ 0) (g0 : 0 < G) (dx : G ∣ x.natAbs) (dy : G ∣ y.natAbs) (hy0 : 0 < y) :
    ∃ n' d' : Int, RA ((w.setCell ⟨p, 1, none⟩ q).setCell ⟨p, 3, none⟩ u) p n' d' ∧ n' * y = x * d' ∧ n'.natAbs ≤ x.natAbs ∧ d'.natAbs ≤ y.natAbs ∧ Blk p w ((w.setCell ⟨p, 1, none⟩ q).setCell ⟨p, 3, none⟩ u) := by
  have O1 : Out p 0 w (w.setCell ⟨p, 1, none⟩ q) := Out.set (.inr rfl)
  have O2 : Out p 2 (w.setCell ⟨p, 1, none⟩ q) ((w.setCell ⟨p, 1, none⟩ q).setCell ⟨p, 3, none⟩ u) := Out.set (.inr rfl)
  obtain ⟨a, ha⟩ := dx
  obtain ⟨b, hb⟩ := dy
  have ea : x.natAbs / G = a := by rw [ha]; exact Nat.mul_div_cancel_left _ g0
  have eb : y.natAbs / G = b := by rw [hb]; exact Nat.mul_div_cancel_left _ g0
  have a0 : a ≠ 0 := fun e => by rw [e, Nat.mul_zero] at ha; omega
  have b0 : b ≠ 0 := fun e => by rw [e, Nat.mul_zero] at hb; omega
  have la : a ≤ x.natAbs := by rw [← ea]; exact Nat.div_le_self _ _
  have lb : b ≤ y.natAbs := by rw [← eb]; exact Nat.div_le_self _ _
  rw [ea] at hq
  rw [eb] at hu
  obtain ⟨v1, c1, _⟩ := hx.abs
  obtain ⟨v3, c3, _⟩ := hy.abs
  have cx := hx.neg
  have cy := hy.neg
  have kw1 := O1.kw hx.place
  have kw2 := O2.kw (hy.place.out O1)
  have hxy : y = (G : Int) * b := by
    have : ((y.natAbs : Nat) : Int) = ((G * b : Nat) : Int) := by rw [hb]
    rw [Int.natCast_mul] at this
    omega
  have key : ∀ n' : Int, (decide (n' < 0) = decide (x < 0)) → n'.natAbs = a → n' * y = x * (b : Int) → ∃ n' d' : Int, RA ((w.setCell ⟨p, 1, none⟩ q).setCell ⟨p, 3, none⟩ u) p n' d' ∧ n' * y = x * d' ∧ n'.natAbs ≤ x.natAbs ∧ d'.natAbs ≤ y.natAbs ∧ Blk p w ((w.setCell ⟨p, 1, none⟩ q).setCell ⟨p, 3, none⟩ u) := fun n' h1 h2 h3 => by
    refine ⟨n', b, ⟨⟨(hx.place.out O1).out O2, ?_, q, ?_, ?_⟩, ⟨(hy.place.out O1).out O2, ?_, u, ?_, ?_⟩, by omega⟩, h3, by omega, by omega, O1.blk.trans O2.blk⟩
    · rw [h1]
      simp [go_sem, cx]
    · simp [go_sem, c1]
    · rw [h2]; exact (hq.keep kw1).keep kw2
    · rw [decide_eq_false (by omega : ¬ y < 0)] at cy
      rw [decide_eq_false (by omega)]
      simp [go_sem, cy]
    · simp [go_sem, c3]
    · rw [Int.natAbs_natCast]; exact (hu.keep kw1).keep kw2
  have hxa : ((x.natAbs : Nat) : Int) = (G : Int) * a := by rw [ha, Int.natCast_mul]
  rcases Int.lt_or_le x 0 with hn | hn
  · refine key (-(a : Int)) (by rw [decide_eq_true hn]; simp; omega) (by omega) ?_
    have hx2 : x = -((G : Int) * a) := by omega
    rw [hx2, hxy]
    grind
  · refine key (a : Int) (by rw [decide_eq_false (by omega), decide_eq_false (by omega)]) (by omega) ?_
    have hx2 : x = (G : Int) * a := by omega
    rw [hx2, hxy]
    grind
theorem Blk.drew {p : Nat} {w w' : World} (h : Blk p w w') : Blk p w w'.drew := h.trans (Blk.of (Below.refl _ _).drew)
end Go.Proofs.YtibkemolmpcdcaaGreatDoor

/- Walks: norm. -/
namespace Go.Proofs.YtibkemolmpcdcaaGreatDoor
open Go.RowKit

set_option maxRecDepth 100000 in
set_option maxHeartbeats 4000000 in
theorem norm_any (p : Nat) (n d : Int) (w : World) (ha : IA w p 0 n) (hb : IA w p 2 d) (d0 : d ≠ 0) (ln : (Bg.wd n.natAbs).length ≤ 90000) (ld : (Bg.wd d.natAbs).length ≤ 90000) :
    Calls Tryz.prog 56 #[.pointer (some ⟨p, 0, none⟩)] w fun e w' => e = .returned (.pointer (some ⟨p, 0, none⟩)) ∧ (∃ n' d' : Int, RA w' p n' d' ∧ n' * d = n * d' ∧ n'.natAbs ≤ n.natAbs ∧ d'.natAbs ≤ d.natAbs) ∧ Blk p w w' := by
  obtain ⟨v, x1, x2⟩ := hb.abs
  obtain ⟨q, c, rfl, -⟩ := id x2
  have xn := hb.neg
  have hl := wd_pos_len (n := d.natAbs) (by omega)
  have g1 : (((Bg.wd d.natAbs).length : Int) == 0) = false := by rw [beq_eq_false_iff_ne]; omega
  have HA := hide ha
  have HB := hide hb
  clear x2 ha hb
  go_enter Tryz.func56, Tryz.ntmps56
  go_upto_if 23 with fail
  go_cut [] from 8 (fun wc => ∃ n1 d1 : Int, Hid (IA wc p 0 n1) ∧ Hid (IA wc p 2 d1) ∧ 0 < d1 ∧ n1.natAbs = n.natAbs ∧ d1.natAbs = d.natAbs ∧ Hid (n1 * d = n * d1) ∧ Hid (Blk p w wc))
  case first =>
    by_cases hd : d < 0
    · rw [decide_eq_true hd] at xn
      have N1 := hide (fun (wx : World) (hb : Below w.heap.size w wx) => ineg_any p 0 p 0 n wx ((unhide HA).place.below hb) ((unhide HA).below hb) (by omega))
      go_wp2_with fail
      go_region_with (
        go_at_call 36
        (refine (unhide N1 _ ?_).mono ?_; · exact (by repeat (first | exact Below.refl _ _ | apply Below.drew)))
        rintro e w1 ⟨rfl, hi1, ho1⟩
        replace ho1 : Out p 0 w w1 := (Out.of (by repeat (first | exact Below.refl _ _ | apply Below.drew))).trans ho1)
      all_goals
        have j1 := (unhide HB).out ho1 (unhide HA).place (.inr (.inr (by omega)))
        have N2 := hide (fun (wx : World) (hb : Below w1.heap.size w1 wx) => ineg_any p 2 p 2 d wx (j1.place.below hb) (j1.below hb) (by omega))
        have HI1 := hide hi1
        have HO1 := hide ho1
        have HJ1 := hide j1
        clear hi1 ho1 j1
        go_wp2_with fail
      all_goals
        go_region_with (
          go_at_call 36
          (refine (unhide N2 _ ?_).mono ?_; · exact (by repeat (first | exact Below.refl _ _ | apply Below.drew)))
          rintro e w2 ⟨rfl, hi2, ho2⟩
          replace ho2 : Out p 2 w1 w2 := (Out.of (by repeat (first | exact Below.refl _ _ | apply Below.drew))).trans ho2)
        all_goals
          have HI2 := hide hi2
          have HK2 := hide ((unhide HO1).blk.trans ho2.blk)
          have HA2 := hide ((unhide HI1).out ho2 (unhide HJ1).place (.inr (.inl (by omega))))
          clear hi2 ho2
          go_wp2_with fail
          go_meet
          case rel => exact ⟨-n, -d, hide (by repeat (first | exact unhide HA2 | apply IA.drew)), hide (by repeat (first | exact unhide HI2 | apply IA.drew)), by omega, by omega, by omega, hide (by rw [Int.neg_mul, Int.mul_neg]), hide (by repeat (first | exact unhide HK2 | apply Blk.drew))⟩
    · rw [decide_eq_false hd] at xn
      go_wp2_with fail
      go_meet
      case rel => exact ⟨n, d, HA, HB, by omega, rfl, rfl, hide rfl, hide (Blk.refl _ _)⟩
  case rest =>
    obtain ⟨n1, d1, HI, HJ, hpos, hnn, hdd, HXX, HK⟩ := hcut
    obtain ⟨wy, rfl⟩ : ∃ wy, wy = wc := ⟨_, rfl⟩
    have HNN := hide hnn
    have HDD := hide hdd
    clear hnn hdd
    clear x1 xn hl g1 HA HB
    obtain ⟨va, ca1, va2⟩ := (unhide HI).abs
    obtain ⟨vb, cb1, vb2⟩ := (unhide HJ).abs
    obtain ⟨pa, ka, rfl, -⟩ := id va2
    obtain ⟨pb, kb, rfl, -⟩ := id vb2
    have lp := (unhide HI).place.low
    by_cases hn1 : n1 = 0
    · have e0 : (Bg.wd n1.natAbs).length = 0 := by rw [hn1]; simp [Bg.wd_zero]
      rw [e0] at ca1
      have SI := hide (setInt64_any p 2 1 wy (unhide HJ).place (by omega) (by omega))
      clear va2 vb2 cb1
      go_wp2_with fail
      refine (unhide SI).mono ?_
      rintro e w1 ⟨rfl, hi1, ho1⟩
      have HI1 := hide hi1
      have HO1 := hide ho1
      have HA1 := hide ((unhide HI).out ho1 (unhide HJ).place (.inr (.inl (by omega))))
      clear hi1 ho1
      go_wp2
      go_ret
      have hnn := unhide HNN
      have hdd := unhide HDD
      refine ⟨rfl, ⟨n1, 1, ⟨unhide HA1, unhide HI1, by omega⟩, ?_, by omega, by omega⟩, (unhide HK).trans (unhide HO1).blk⟩
      have : n = 0 := by omega
      rw [hn1, this]
      omega
    · have ga : (((Bg.wd n1.natAbs).length : Int) == 0) = false := by
        have := wd_pos_len (n := n1.natAbs) (by omega)
        rw [beq_eq_false_iff_ne]; omega
      have HVA := hide va2
      have HVB := hide vb2
      by_cases hd1 : d1 = 1
      · subst hd1
        obtain ⟨b5, o5, rfl, -, c5⟩ := WS.at vb2 0 1 (by rw [show (1 : Int).natAbs = 1 from rfl, Bg.wd_one (by omega) (by omega)]; rfl)
        have e5 : (Bg.wd (1 : Int).natAbs).length = 1 := by rw [show (1 : Int).natAbs = 1 from rfl, Bg.wd_one (by omega) (by omega)]; rfl
        rw [e5] at cb1
        have c6 : wy.cell? ⟨b5, o5, none⟩ = some (.int .u32 (1 : Int)) := c5
        clear c5 va2 vb2
        go_wp2
        go_ret
        have hnn := unhide HNN
        have hdd := unhide HDD
        exact ⟨rfl, ⟨n1, 1, ⟨unhide HI, unhide HJ, by omega⟩, unhide HXX, by omega, by omega⟩, unhide HK⟩
      · by_cases hds : d1.natAbs < 4294967296
        · obtain ⟨b5, o5, rfl, -, c5⟩ := WS.at vb2 0 d1.natAbs (by rw [Bg.wd_one hds (by omega)]; rfl)
          have e5 : (Bg.wd d1.natAbs).length = 1 := by rw [Bg.wd_one hds (by omega)]; rfl
          rw [e5] at cb1 HVB
          have c6 : wy.cell? ⟨b5, o5, none⟩ = some (.int .u32 (d1.natAbs : Int)) := c5
          have dne : ((d1.natAbs : Int) == 1) = false := by rw [beq_eq_false_iff_ne]; omega
          clear c5 va2 vb2
          have CN := hide (fun (wx : World) (hb : Below wy.heap.size wy wx) => common_any _ _ n1.natAbs d1.natAbs wx ((unhide HVA).below hb) ((unhide HVB).below hb) (by rw [unhide HNN]; omega) (by rw [unhide HDD]; omega))
          go_upto_region 11 with fail
          go_cut [3] from 8 (fun v w2 => ∃ (G : Nat) (pg : Option Addr) (kg : Nat), v = .slice pg (Bg.wd G).length kg ∧ Hid (WS w2 (.slice pg (Bg.wd G).length kg) (Bg.wd G)) ∧ Hid (G = Nat.gcd n1.natAbs d1.natAbs) ∧ Hid (Below wy.heap.size wy w2))
          case first =>
            go_wp2_with fail
            go_region_with (
              go_at_call 83
              (refine (unhide CN _ ?_).mono ?_; · exact (by repeat (first | exact Below.refl _ _ | apply Below.drew)))
              rintro e w1 ⟨v1, rfl, hv1, hb1⟩
              obtain ⟨pg, kg, rfl, -⟩ := id hv1
              replace hb1 : Below wy.heap.size wy w1 := below_via (by repeat (first | exact Below.refl _ _ | apply Below.drew)) hb1)
            all_goals
              have HV1 := hide hv1
              have HB1 := hide hb1
              clear hv1 hb1
              go_wp2_with fail
              go_meet
              case rel => exact ⟨_, pg, kg, rfl, hide ((unhide HV1).below (by repeat (first | exact Below.refl _ _ | apply Below.drew))), hide rfl, hide (by repeat (first | exact unhide HB1 | apply Below.drew))⟩
          case rest =>
            obtain ⟨w2, rfl⟩ : ∃ w2, w2 = wc := ⟨_, rfl⟩
            obtain ⟨G, pg, kg, rfl, HG, HGE, HB2⟩ := hcut
            have g0 : G ≠ 0 := fun e => hn1 (by have := Nat.eq_zero_of_gcd_eq_zero_left ((unhide HGE).symm.trans e); omega)
            by_cases hG1 : G = 1
            · subst hG1
              obtain ⟨b5, o5, rfl, -, c5⟩ := WS.at (unhide HG) 0 1 (by rw [Bg.wd_one (by omega) (by omega)]; rfl)
              have e5 : (Bg.wd 1).length = 1 := by rw [Bg.wd_one (by omega) (by omega)]; rfl
              rw [e5]
              have c6 : w2.cell? ⟨b5, o5, none⟩ = some (.int .u32 (1 : Int)) := c5
              clear c5
              go_wp2
              go_ret
              have hnn := unhide HNN
              have hdd := unhide HDD
              exact ⟨rfl, ⟨n1, d1, ⟨(unhide HI).below (unhide HB2), (unhide HJ).below (unhide HB2), hpos⟩, unhide HXX, by omega, by omega⟩, (unhide HK).trans (Blk.of (unhide HB2))⟩
            · by_cases hGs : G < 4294967296
              · obtain ⟨b5, o5, rfl, -, c5⟩ := WS.at (unhide HG) 0 G (by rw [Bg.wd_one hGs g0]; rfl)
                have e5 : (Bg.wd G).length = 1 := by rw [Bg.wd_one hGs g0]; rfl
                rw [e5] at HG ⊢
                have c6 : w2.cell? ⟨b5, o5, none⟩ = some (.int .u32 (G : Int)) := c5
                have gne : ((G : Int) == 1) = false := by rw [beq_eq_false_iff_ne]; omega
                clear c5
                have hGb : G ≤ d1.natAbs := by rw [unhide HGE]; exact Nat.gcd_le_right _ (by omega)
                have lG : (Bg.wd G).length ≤ 100000 := Nat.le_trans (Bg.wd_mono hGb) (by rw [unhide HDD]; omega)
                have D1 := hide (div_any _ _ n1.natAbs G w2 ((unhide HVA).below (unhide HB2)) (unhide HG) (by rw [unhide HNN]; omega) lG g0)
                have a1 := ((unhide HB2).cell (p := ⟨p, 0 + 1, none⟩) lp).trans ca1
                have a3 := ((unhide HB2).cell (p := ⟨p, 2 + 1, none⟩) lp).trans cb1
                go_wp2_with fail
                try go_wp2_with fail
                refine (unhide D1).mono ?_
                rintro e w3 ⟨v1, v2, rfl, hv1, -, hb3⟩
                obtain ⟨q1, k1, rfl, -⟩ := id hv1
                have D2 := hide (div_any _ _ d1.natAbs G w3 (((unhide HVB).below (unhide HB2)).below hb3) ((unhide HG).below hb3) (by rw [unhide HDD]; omega) lG g0)
                have a4 := (hb3.cell (p := ⟨p, 2 + 1, none⟩) (by have := (unhide HB2).size; simp only; omega)).trans a3
                have HV1 := hide hv1
                have HB3 := hide hb3
                clear hv1 hb3
                go_wp2_with fail
                refine (unhide D2).mono ?_
                rintro e w4 ⟨v3, v4, rfl, hv3, -, hb4⟩
                obtain ⟨q3, k3, rfl, -⟩ := id hv3
                have HB4 := hide (below_via (unhide HB2) (below_via (unhide HB3) hb4))
                have HV1' := hide ((unhide HV1).below hb4)
                have HV3 := hide hv3
                have z0 := (unhide HI).place.below (unhide HB4)
                have z2 := (unhide HJ).place.below (unhide HB4)
                have b1 := ((unhide HB4).cell (p := ⟨p, 0 + 1, none⟩) lp).trans ca1
                have b3 := ((unhide HB4).cell (p := ⟨p, 2 + 1, none⟩) lp).trans cb1
                have f1 := z0.frozen 1
                have f3 := z0.frozen 3
                have HT := hide (put_abs (x := n1) (y := d1) (q := .slice q1 (Bg.wd (n1.natAbs / G)).length k1) (u := .slice q3 (Bg.wd (d1.natAbs / G)).length k3) ((unhide HI).below (unhide HB4)) ((unhide HJ).below (unhide HB4)) (unhide HV1') (unhide HV3) hn1 (by omega) (by rw [unhide HGE]; exact Nat.gcd_dvd_left _ _) (by rw [unhide HGE]; exact Nat.gcd_dvd_right _ _) hpos)
                clear hv3 hb4 z0 z2 a1 a3 a4
                go_wp2
                go_ret
                have hnn := unhide HNN
                have hdd := unhide HDD
                obtain ⟨n', d', hr, e1, l1, l2, hk⟩ := unhide HT
                exact ⟨rfl, ⟨n', d', hr, ratio_via (by omega) e1 (unhide HXX), by omega, by omega⟩, (unhide HK).trans ((Blk.of (unhide HB4)).trans hk)⟩
              · exfalso
                have hGb : G ≤ d1.natAbs := by rw [unhide HGE]; exact Nat.gcd_le_right _ (by omega)
                omega
        · have e5 : 2 ≤ (Bg.wd d1.natAbs).length := Bg.len_ge (k := 1) (by omega)
          have dne : (((Bg.wd d1.natAbs).length : Int) == 1) = false := by rw [beq_eq_false_iff_ne]; omega
          clear va2 vb2
          have CN := hide (fun (wx : World) (hb : Below wy.heap.size wy wx) => common_any _ _ n1.natAbs d1.natAbs wx ((unhide HVA).below hb) ((unhide HVB).below hb) (by rw [unhide HNN]; omega) (by rw [unhide HDD]; omega))
          go_upto_region 11 with fail
          go_cut [3] from 8 (fun v w2 => ∃ (G : Nat) (pg : Option Addr) (kg : Nat), v = .slice pg (Bg.wd G).length kg ∧ Hid (WS w2 (.slice pg (Bg.wd G).length kg) (Bg.wd G)) ∧ Hid (G = Nat.gcd n1.natAbs d1.natAbs) ∧ Hid (Below wy.heap.size wy w2))
          case first =>
            go_wp2_with fail
            go_region_with (
              go_at_call 83
              (refine (unhide CN _ ?_).mono ?_; · exact (by repeat (first | exact Below.refl _ _ | apply Below.drew)))
              rintro e w1 ⟨v1, rfl, hv1, hb1⟩
              obtain ⟨pg, kg, rfl, -⟩ := id hv1
              replace hb1 : Below wy.heap.size wy w1 := below_via (by repeat (first | exact Below.refl _ _ | apply Below.drew)) hb1)
            all_goals
              have HV1 := hide hv1
              have HB1 := hide hb1
              clear hv1 hb1
              go_wp2_with fail
              go_meet
              case rel => exact ⟨_, pg, kg, rfl, hide ((unhide HV1).below (by repeat (first | exact Below.refl _ _ | apply Below.drew))), hide rfl, hide (by repeat (first | exact unhide HB1 | apply Below.drew))⟩
          case rest =>
            obtain ⟨w2, rfl⟩ : ∃ w2, w2 = wc := ⟨_, rfl⟩
            obtain ⟨G, pg, kg, rfl, HG, HGE, HB2⟩ := hcut
            have g0 : G ≠ 0 := fun e => hn1 (by have := Nat.eq_zero_of_gcd_eq_zero_left ((unhide HGE).symm.trans e); omega)
            by_cases hG1 : G = 1
            · subst hG1
              obtain ⟨b5, o5, rfl, -, c5⟩ := WS.at (unhide HG) 0 1 (by rw [Bg.wd_one (by omega) (by omega)]; rfl)
              have e5 : (Bg.wd 1).length = 1 := by rw [Bg.wd_one (by omega) (by omega)]; rfl
              rw [e5]
              have c6 : w2.cell? ⟨b5, o5, none⟩ = some (.int .u32 (1 : Int)) := c5
              clear c5
              go_wp2
              go_ret
              have hnn := unhide HNN
              have hdd := unhide HDD
              exact ⟨rfl, ⟨n1, d1, ⟨(unhide HI).below (unhide HB2), (unhide HJ).below (unhide HB2), hpos⟩, unhide HXX, by omega, by omega⟩, (unhide HK).trans (Blk.of (unhide HB2))⟩
            · by_cases hGs : G < 4294967296
              · obtain ⟨b5, o5, rfl, -, c5⟩ := WS.at (unhide HG) 0 G (by rw [Bg.wd_one hGs g0]; rfl)
                have e5 : (Bg.wd G).length = 1 := by rw [Bg.wd_one hGs g0]; rfl
                rw [e5] at HG ⊢
                have c6 : w2.cell? ⟨b5, o5, none⟩ = some (.int .u32 (G : Int)) := c5
                have gne : ((G : Int) == 1) = false := by rw [beq_eq_false_iff_ne]; omega
                clear c5
                have hGb : G ≤ d1.natAbs := by rw [unhide HGE]; exact Nat.gcd_le_right _ (by omega)
                have lG : (Bg.wd G).length ≤ 100000 := Nat.le_trans (Bg.wd_mono hGb) (by rw [unhide HDD]; omega)
                have D1 := hide (div_any _ _ n1.natAbs G w2 ((unhide HVA).below (unhide HB2)) (unhide HG) (by rw [unhide HNN]; omega) lG g0)
                have a1 := ((unhide HB2).cell (p := ⟨p, 0 + 1, none⟩) lp).trans ca1
                have a3 := ((unhide HB2).cell (p := ⟨p, 2 + 1, none⟩) lp).trans cb1
                go_wp2_with fail
                try go_wp2_with fail
                refine (unhide D1).mono ?_
                rintro e w3 ⟨v1, v2, rfl, hv1, -, hb3⟩
                obtain ⟨q1, k1, rfl, -⟩ := id hv1
                have D2 := hide (div_any _ _ d1.natAbs G w3 (((unhide HVB).below (unhide HB2)).below hb3) ((unhide HG).below hb3) (by rw [unhide HDD]; omega) lG g0)
                have a4 := (hb3.cell (p := ⟨p, 2 + 1, none⟩) (by have := (unhide HB2).size; simp only; omega)).trans a3
                have HV1 := hide hv1
                have HB3 := hide hb3
                clear hv1 hb3
                go_wp2_with fail
                refine (unhide D2).mono ?_
                rintro e w4 ⟨v3, v4, rfl, hv3, -, hb4⟩
                obtain ⟨q3, k3, rfl, -⟩ := id hv3
                have HB4 := hide (below_via (unhide HB2) (below_via (unhide HB3) hb4))
                have HV1' := hide ((unhide HV1).below hb4)
                have HV3 := hide hv3
                have z0 := (unhide HI).place.below (unhide HB4)
                have z2 := (unhide HJ).place.below (unhide HB4)
                have b1 := ((unhide HB4).cell (p := ⟨p, 0 + 1, none⟩) lp).trans ca1
                have b3 := ((unhide HB4).cell (p := ⟨p, 2 + 1, none⟩) lp).trans cb1
                have f1 := z0.frozen 1
                have f3 := z0.frozen 3
                have HT := hide (put_abs (x := n1) (y := d1) (q := .slice q1 (Bg.wd (n1.natAbs / G)).length k1) (u := .slice q3 (Bg.wd (d1.natAbs / G)).length k3) ((unhide HI).below (unhide HB4)) ((unhide HJ).below (unhide HB4)) (unhide HV1') (unhide HV3) hn1 (by omega) (by rw [unhide HGE]; exact Nat.gcd_dvd_left _ _) (by rw [unhide HGE]; exact Nat.gcd_dvd_right _ _) hpos)
                clear hv3 hb4 z0 z2 a1 a3 a4
                go_wp2
                go_ret
                have hnn := unhide HNN
                have hdd := unhide HDD
                obtain ⟨n', d', hr, e1, l1, l2, hk⟩ := unhide HT
                exact ⟨rfl, ⟨n', d', hr, ratio_via (by omega) e1 (unhide HXX), by omega, by omega⟩, (unhide HK).trans ((Blk.of (unhide HB4)).trans hk)⟩
              · have e5 : 2 ≤ (Bg.wd G).length := Bg.len_ge (k := 1) (by omega)
                have gne : (((Bg.wd G).length : Int) == 1) = false := by rw [beq_eq_false_iff_ne]; omega
                have hGb : G ≤ d1.natAbs := by rw [unhide HGE]; exact Nat.gcd_le_right _ (by omega)
                have lG : (Bg.wd G).length ≤ 100000 := Nat.le_trans (Bg.wd_mono hGb) (by rw [unhide HDD]; omega)
                have D1 := hide (div_any _ _ n1.natAbs G w2 ((unhide HVA).below (unhide HB2)) (unhide HG) (by rw [unhide HNN]; omega) lG g0)
                have a1 := ((unhide HB2).cell (p := ⟨p, 0 + 1, none⟩) lp).trans ca1
                have a3 := ((unhide HB2).cell (p := ⟨p, 2 + 1, none⟩) lp).trans cb1
                go_wp2_with fail
                try go_wp2_with fail
                refine (unhide D1).mono ?_
                rintro e w3 ⟨v1, v2, rfl, hv1, -, hb3⟩
                obtain ⟨q1, k1, rfl, -⟩ := id hv1
                have D2 := hide (div_any _ _ d1.natAbs G w3 (((unhide HVB).below (unhide HB2)).below hb3) ((unhide HG).below hb3) (by rw [unhide HDD]; omega) lG g0)
                have a4 := (hb3.cell (p := ⟨p, 2 + 1, none⟩) (by have := (unhide HB2).size; simp only; omega)).trans a3
                have HV1 := hide hv1
                have HB3 := hide hb3
                clear hv1 hb3
                go_wp2_with fail
                refine (unhide D2).mono ?_
                rintro e w4 ⟨v3, v4, rfl, hv3, -, hb4⟩
                obtain ⟨q3, k3, rfl, -⟩ := id hv3
                have HB4 := hide (below_via (unhide HB2) (below_via (unhide HB3) hb4))
                have HV1' := hide ((unhide HV1).below hb4)
                have HV3 := hide hv3
                have z0 := (unhide HI).place.below (unhide HB4)
                have z2 := (unhide HJ).place.below (unhide HB4)
                have b1 := ((unhide HB4).cell (p := ⟨p, 0 + 1, none⟩) lp).trans ca1
                have b3 := ((unhide HB4).cell (p := ⟨p, 2 + 1, none⟩) lp).trans cb1
                have f1 := z0.frozen 1
                have f3 := z0.frozen 3
                have HT := hide (put_abs (x := n1) (y := d1) (q := .slice q1 (Bg.wd (n1.natAbs / G)).length k1) (u := .slice q3 (Bg.wd (d1.natAbs / G)).length k3) ((unhide HI).below (unhide HB4)) ((unhide HJ).below (unhide HB4)) (unhide HV1') (unhide HV3) hn1 (by omega) (by rw [unhide HGE]; exact Nat.gcd_dvd_left _ _) (by rw [unhide HGE]; exact Nat.gcd_dvd_right _ _) hpos)
                clear hv3 hb4 z0 z2 a1 a3 a4
                go_wp2
                go_ret
                have hnn := unhide HNN
                have hdd := unhide HDD
                obtain ⟨n', d', hr, e1, l1, l2, hk⟩ := unhide HT
                exact ⟨rfl, ⟨n', d', hr, ratio_via (by omega) e1 (unhide HXX), by omega, by omega⟩, (unhide HK).trans ((Blk.of (unhide HB4)).trans hk)⟩
end Go.Proofs.YtibkemolmpcdcaaGreatDoor
