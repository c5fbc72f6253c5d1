/- Plain facts: what Print writes Parse reads. -/
import Derived.Test.YtibkemolmpcdcaaGreatDoorG12
import Derived.Test.YtibkemolmpcdcaaGreatDoorG11
namespace Go.Proofs.YtibkemolmpcdcaaGreatDoor

theorem vL_app (l m : List UInt8) : vL (l ++ m) = vL l * 10 ^ m.length + vL m := by
  unfold vL
  rw [List.length_append, Dm.val_drop]
  congr 1
  · congr 1
    refine Dm.val_congr _ fun j hj => ?_
    unfold dOf
    rw [List.getD_eq_getElem?_getD, List.getD_eq_getElem?_getD, List.getElem?_append_left hj]
  · refine Dm.val_congr _ fun j hj => ?_
    unfold dOf
    rw [List.getD_eq_getElem?_getD, List.getD_eq_getElem?_getD, List.getElem?_append_right (by omega)]
    congr 4
    omega
theorem vL_one (c : UInt8) : vL [c] = c.toNat - 48 := by simp [vL, Dm.val, dOf]
theorem rep_eq : ∀ z, Lib.repeatL [48] z = List.replicate z 48
  | 0 => rfl
  | z + 1 => by rw [Lib.repeatL, rep_eq z]; rfl
theorem vL_zeros (z : Nat) : vL (List.replicate z 48) = 0 := by
  unfold vL
  refine Dm.val_zeros _ fun j hj => ?_
  unfold dOf
  simp at hj
  simp [List.getD_eq_getElem?_getD, hj]
theorem ofNat_dg {d : Nat} (h : d < 10) : (UInt8.ofNat (48 + d)).toNat = 48 + d := by
  rw [UInt8.toNat_ofNat']; omega
theorem isDg_ofNat {d : Nat} (h : d < 10) : isDg (UInt8.ofNat (48 + d)) = true := by
  unfold isDg; rw [ofNat_dg h]; simp; omega
theorem dec_props (n : Nat) : (Lib.decDigits n).all isDg = true ∧ vL (Lib.decDigits n) = n ∧ (Lib.decDigits n ≠ []) ∧ (1 ≤ n → (Lib.decDigits n).head? ≠ some 48) := by
  induction n using Nat.strongRecOn with
  | _ n ih =>
    by_cases h : n < 10
    · have e : Lib.decDigits n = [UInt8.ofNat (48 + n)] := by rw [Lib.decDigits, dif_pos h]
      rw [e]
      refine ⟨by rw [List.all_cons, isDg_ofNat h]; rfl, by rw [vL_one, ofNat_dg h]; omega, by simp, fun h1 => ?_⟩
      simp only [List.head?_cons, ne_eq, Option.some.injEq]
      intro q
      have := congrArg UInt8.toNat q
      rw [ofNat_dg h] at this
      have : (48 : UInt8).toNat = 48 := rfl
      omega
    · have e : Lib.decDigits n = Lib.decDigits (n / 10) ++ [UInt8.ofNat (48 + n % 10)] := by rw [Lib.decDigits, dif_neg h]
      have m : n % 10 < 10 := Nat.mod_lt _ (by omega)
      obtain ⟨a, b, c, d⟩ := ih (n / 10) (by omega)
      rw [e]
      refine ⟨by rw [List.all_append, a, List.all_cons, isDg_ofNat m]; rfl, ?_, by simp, fun _ => ?_⟩
      · rw [vL_app, b, vL_one, ofNat_dg m]; simp; omega
      · have hd := d (by omega)
        cases q : Lib.decDigits (n / 10) with
        | nil => exact absurd q c
        | cons x xs => rw [q] at hd; simpa using hd
theorem all_rep (z : Nat) : (List.replicate z (48 : UInt8)).all isDg = true := by
  rw [List.all_eq_true]; intro x hx; rw [(List.mem_replicate.1 hx).2]; decide
theorem index_none : ∀ (l : List UInt8), l.all isDg = true → Lib.indexByte l 46 = -1
  | [], _ => rfl
  | b :: l, h => by
    rw [List.all_cons, Bool.and_eq_true] at h
    have hb := isDg_bd h.1
    have ne : (b == 46) = false := by
      rw [beq_eq_false_iff_ne]; intro e; rw [e] at hb; have : (46 : UInt8).toNat = 46 := rfl; omega
    rw [Lib.indexByte, ne, index_none l h.2]
    rfl
theorem index_at : ∀ (l m : List UInt8), l.all isDg = true → Lib.indexByte (l ++ 46 :: m) 46 = (l.length : Int)
  | [], m, _ => by simp [Lib.indexByte]
  | b :: l, m, h => by
    rw [List.all_cons, Bool.and_eq_true] at h
    have hb := isDg_bd h.1
    have ne : (b == 46) = false := by
      rw [beq_eq_false_iff_ne]; intro e; rw [e] at hb; have : (46 : UInt8).toNat = 46 := rfl; omega
    have hn : ((l.length : Int) == -1) = false := by rw [beq_eq_false_iff_ne]; omega
    rw [List.cons_append, Lib.indexByte, ne, index_at l m h.2, hn]
    rfl
theorem cut1_none' {l : List UInt8} (h : l.all isDg = true) : cut1 l 46 = (l, [], false) := cut1_miss (by rw [index_none l h]; decide)
theorem cut1_at {l m : List UInt8} (h : l.all isDg = true) : cut1 (l ++ 46 :: m) 46 = (l, m, true) := by
  rw [cut1_hit (index_at l m h)]
  simp
theorem pU_sign (b : Bool) {l : List UInt8} (h : l.head?.map isDg = some true) : pU (signL b l) = l ∧ pB (signL b l) = b := by
  cases l with
  | nil => simp at h
  | cons x xs =>
    have hx : isDg x = true := by simpa using h
    have hb := isDg_bd hx
    have ne : (45 == x) = false := by
      rw [beq_eq_false_iff_ne]; intro e; rw [← e] at hb; have : (45 : UInt8).toNat = 45 := rfl; omega
    unfold pU pB Lib.trimPrefix Lib.hasPrefix signL
    cases b
    · have e : [45].isPrefixOf (x :: xs) = false := by rw [List.isPrefixOf, ne]; rfl
      simp [e]
    · simp
theorem head_all {l : List UInt8} (h : l.all isDg = true) (hn : l ≠ []) : l.head?.map isDg = some true := by
  cases l with
  | nil => exact absurd rfl hn
  | cons x xs => rw [List.all_cons, Bool.and_eq_true] at h; simp [h.1]
theorem dgs_of {l : List UInt8} (h : l.all isDg = true) (hn : l ≠ []) : dgs l = true := by
  unfold dgs; rw [h]; cases l
  · exact absurd rfl hn
  · rfl
theorem sg_abs (c : Int) (j : Nat) : Dm.sg (decide (c < 0)) (c.natAbs * 10 ^ j) = Dm.tens c j := by
  unfold Dm.sg
  by_cases h : c < 0
  · rw [if_pos (by simpa using h), (Dm.tens_abs c j).1 h]
  · rw [if_neg (by simpa using h), (Dm.tens_abs c j).2 (by omega)]
theorem told_eq {c x : Int} {j : Nat} (h : Dm.wrongN c x = 0) (hj : j ≤ 100) :
    nC (decide (c < 0)) (c.natAbs * 10 ^ j) (x - j) = c ∧ nX (decide (c < 0)) (c.natAbs * 10 ^ j) (x - j) = x ∧ nR (decide (c < 0)) (c.natAbs * 10 ^ j) (x - j) = 0 := by
  have e := Dm.sg_near (sg_abs c j) (x - j)
  have t := Dm.exact_told h hj (S := Dm.tens c j) rfl
  unfold nC nX nR
  rw [e.1, e.2]
  exact t

theorem zL_props {n p : Nat} (hp : 1 ≤ p) : (zL (Lib.decDigits n) p).all isDg = true ∧ vL (zL (Lib.decDigits n) p) = n ∧ p + 1 ≤ (zL (Lib.decDigits n) p).length ∧ lead0 ((zL (Lib.decDigits n) p).take ((zL (Lib.decDigits n) p).length - p)) = false := by
  obtain ⟨a, b, c, d⟩ := dec_props n
  have hl : (zL (Lib.decDigits n) p).length = (p + 1 - (Lib.decDigits n).length) + (Lib.decDigits n).length := by
    unfold zL; rw [rep_eq]; simp
  refine ⟨?_, ?_, by omega, ?_⟩
  · unfold zL; rw [rep_eq, List.all_append, all_rep, a]; rfl
  · unfold zL; rw [rep_eq, vL_app, vL_zeros, b]; simp
  · unfold lead0
    rw [List.length_take]
    by_cases g : (Lib.decDigits n).length < p + 2
    · have : ¬ 1 < min ((zL (Lib.decDigits n) p).length - p) (zL (Lib.decDigits n) p).length := by omega
      rw [decide_eq_false this]; rfl
    · have e : zL (Lib.decDigits n) p = Lib.decDigits n := by
        unfold zL; rw [show p + 1 - (Lib.decDigits n).length = 0 by omega]; rfl
      rw [e]
      have n1 : 1 ≤ n := by
        rcases Nat.eq_zero_or_pos n with z | z
        · subst z
          have : (Lib.decDigits 0).length = 1 := by rw [Lib.decDigits_length, Lib.nDigits_small (by omega)]
          omega
        · exact z
      have hh := d n1
      rw [Bool.and_eq_false_iff]
      right
      rw [decide_eq_false_iff_not, List.head?_take, if_neg (by omega)]
      exact hh

/-- what is written is read -/
theorem parse_print {c x : Int} (h : Dm.wrongN c x = 0) : parseF (printL c x) = (c, x, 0) := by
  obtain ⟨p1, p2, p3, p4, p5⟩ := Dm.wrong_ok h
  have hn : c.natAbs < 1000000000000000000 := by omega
  have hdl := nDigits_18 hn
  obtain ⟨a, b, cn, d⟩ := dec_props c.natAbs
  by_cases hx : 0 ≤ x
  · obtain ⟨z, hz⟩ : ∃ z : Nat, x = (z : Int) := ⟨x.toNat, by omega⟩
    subst hz
    have hm : magL c.natAbs (z : Int) = Lib.decDigits c.natAbs ++ List.replicate z 48 := by
      unfold magL; rw [if_pos hx, Int.toNat_natCast, rep_eq]
    have ma : (magL c.natAbs (z : Int)).all isDg = true := by rw [hm, List.all_append, a, all_rep]; rfl
    have mn : magL c.natAbs (z : Int) ≠ [] := by rw [hm]; intro e; exact cn (List.append_eq_nil_iff.1 e).1
    obtain ⟨u1, u2⟩ := pU_sign (decide (c < 0)) (head_all ma mn)
    have hlen : (printL c (z : Int)).length ≤ 100 := by
      unfold printL signL; rw [hm]; split <;> simp <;> omega
    have ld : lead0 (magL c.natAbs (z : Int)) = false := by
      unfold lead0
      rw [Bool.and_eq_false_iff]
      by_cases g : c.natAbs = 0
      · left
        have c0 : c = 0 := by omega
        have z0 := (p5 (by rw [c0]; rfl)).2
        have z1 : z = 0 := by omega
        rw [hm, z1, g]
        have : (Lib.decDigits 0).length = 1 := by rw [Lib.decDigits_length, Lib.nDigits_small (by omega)]
        simp [this]
      · right
        have hh := d (by omega)
        rw [hm, decide_eq_false_iff_not]
        cases q : Lib.decDigits c.natAbs with
        | nil => exact absurd q cn
        | cons y ys => rw [q] at hh; simpa using hh
    have t := told_eq (j := z) h (by omega)
    have hv : vL (magL c.natAbs (z : Int) ++ []) = c.natAbs * 10 ^ z := by
      rw [List.append_nil, hm, vL_app, b, vL_zeros, List.length_replicate, Nat.add_zero]
    unfold parseF
    rw [if_neg (by omega)]
    unfold printL
    rw [u1, u2, cut1_none' ma, if_pos (by unfold pOk; rw [dgs_of ma mn, ld]; rfl), hv]
    simp only [List.length_nil]
    rw [show -((0 : Nat) : Int) = (z : Int) - (z : Int) by omega, t.1, t.2.1, t.2.2]
  · obtain ⟨p, hp⟩ : ∃ p : Nat, x = -(p : Int) := ⟨(-x).toNat, by omega⟩
    subst hp
    have hp1 : 1 ≤ p := by omega
    obtain ⟨z1, z2, z3, z4⟩ := zL_props (n := c.natAbs) hp1
    obtain ⟨L, hL⟩ : ∃ L, L = zL (Lib.decDigits c.natAbs) p := ⟨_, rfl⟩
    rw [← hL] at z1 z2 z3 z4
    have hLl : L.length ≤ 60 := by rw [hL]; unfold zL; rw [rep_eq]; simp; omega
    have hm : magL c.natAbs (-(p : Int)) = L.take (L.length - p) ++ 46 :: L.drop (L.length - p) := by
      unfold magL; rw [if_neg hx, show (- -(p : Int)).toNat = p by omega]; unfold ptL; rw [← hL]
    have t1 : (L.take (L.length - p)).all isDg = true := by
      rw [List.all_eq_true] at z1 ⊢; intro y hy; exact z1 y (List.mem_of_mem_take hy)
    have t2 : (L.drop (L.length - p)).all isDg = true := by
      rw [List.all_eq_true] at z1 ⊢; intro y hy; exact z1 y (List.mem_of_mem_drop hy)
    have n1 : L.take (L.length - p) ≠ [] := by
      intro e; have := congrArg List.length e; simp at this; omega
    have n2 : L.drop (L.length - p) ≠ [] := by
      intro e; have := congrArg List.length e; simp at this; omega
    have hh : (magL c.natAbs (-(p : Int))).head?.map isDg = some true := by
      rw [hm]
      have := head_all t1 n1
      cases q : L.take (L.length - p) with
      | nil => exact absurd q n1
      | cons y ys => rw [q] at this; simpa using this
    obtain ⟨u1, u2⟩ := pU_sign (decide (c < 0)) hh
    have hlen : (printL c (-(p : Int))).length ≤ 100 := by
      unfold printL signL; rw [hm]; split <;> simp <;> omega
    have t := told_eq (j := 0) h (by omega)
    have hv : vL (L.take (L.length - p) ++ L.drop (L.length - p)) = c.natAbs := by rw [List.take_append_drop, z2]
    have hd : (L.drop (L.length - p)).length = p := by simp; omega
    unfold parseF
    rw [if_neg (by omega)]
    unfold printL
    rw [u1, u2, hm, cut1_at t1, if_pos (by unfold pOk; rw [dgs_of t1 n1, z4, dgs_of t2 n2]; rfl), hv, hd]
    simp only [Nat.pow_zero, Nat.mul_one, Int.natCast_zero, Int.sub_zero] at t
    rw [t.1, t.2.1, t.2.2]

theorem lead_z (D : Nat → Nat) : ∀ n, ∃ z, z ≤ n ∧ (∀ j, j < z → D j = 0) ∧ (z < n → D z ≠ 0)
  | 0 => ⟨0, Nat.le_refl _, fun j h => absurd h (by omega), fun h => absurd h (by omega)⟩
  | n + 1 => by
    obtain ⟨z, a, b, c⟩ := lead_z D n
    rcases Nat.lt_or_ge z n with g | g
    · exact ⟨z, by omega, b, fun _ => c g⟩
    · have e : z = n := by omega
      subst e
      by_cases q : D z = 0
      · exact ⟨z + 1, Nat.le_refl _, fun j hj => by by_cases r : j = z; · rw [r]; exact q
                                                    · exact b j (by omega), fun h => absurd h (by omega)⟩
      · exact ⟨z, by omega, b, fun _ => q⟩
theorem near_bd {l : List UInt8} (h : l.all isDg = true) (hl : l.length ≤ 100) {x : Int} (hx1 : -200 ≤ x) (hx2 : x ≤ 100) : Dm.nQ (vL l) x false ≤ 1000000000000000000 ∧ -40 ≤ Dm.nE (vL l) x := by
  obtain ⟨z, a, b, c⟩ := lead_z (dOf l) l.length
  obtain ⟨_, _, _, q, ey, eq⟩ := Dm.near_facts (dOf_lt h) false hl hx1 hx2 a b c rfl rfl
  refine ⟨?_, by unfold Dm.nE; omega⟩
  unfold vL
  rw [← eq]
  omega

/-- what is told is a right number -/
theorem parse_right (l : List UInt8) (h : (parseF l).2.2 = 0) : Dm.wrongN (parseF l).1 (parseF l).2.1 = 0 := by
  unfold parseF at h ⊢
  split at h
  · simp at h
  · rename_i h1
    rw [if_neg h1]
    split at h
    · rename_i h2
      rw [if_pos h2]
      have o := (ok_parts (cut1_none _ _) h2).2.2.2
      have l1 := cut1_le (pU l) 46
      have l2 : (pU l).length ≤ l.length := trim_le l [45]
      obtain ⟨b1, b2⟩ := near_bd o (by rw [List.length_append]; omega) (x := -((cut1 (pU l) 46).2.1.length : Int)) (by omega) (by omega)
      refine (Dm.round_told (C := Dm.sg (pB l) (Dm.nQ _ _ false)) ?_ ?_ b2 h).1
      · unfold Dm.sg; split <;> omega
      · unfold Dm.sg; split <;> omega
    · simp at h
end Go.Proofs.YtibkemolmpcdcaaGreatDoor

/- Plain: how the document's answer reads a text of digits. -/
namespace Go.Proofs.YtibkemolmpcdcaaGreatDoor

/-- so many digits at the beginning, and no more -/
structure Run (U : List UInt8) (k : Nat) : Prop where
  le : k ≤ U.length
  dig : (U.take k).all isDg = true
  stop : ∀ c, U[k]? = some c → isDg c = false
theorem sign_cut (l : List UInt8) : (pB l = true → ∃ m, l = 45 :: m ∧ pU l = m) ∧ (pB l = false → pU l = l ∧ l.head? ≠ some 45) := by
  unfold pB pU Lib.trimPrefix Lib.hasPrefix
  cases l with
  | nil => simp
  | cons c m =>
    by_cases h : c = 45
    · subst h; simp
    · have h' : ¬ 45 = c := fun e => h e.symm
      simp [h, h']
theorem cut_at (U : List UInt8) (k : Nat) (h : (U.take k).all isDg = true) (hc : U[k]? = some 46) : cut1 U 46 = (U.take k, U.drop (k + 1), true) := by
  have lk : k < U.length := (List.getElem?_eq_some_iff.1 hc).1
  have e : U = U.take k ++ 46 :: U.drop (k + 1) := by
    have := List.take_append_drop k U
    rw [List.drop_eq_getElem_cons lk, (List.getElem?_eq_some_iff.1 hc).2] at this
    exact this.symm
  have := cut1_at (l := U.take k) (m := U.drop (k + 1)) h
  rwa [← e] at this
theorem cut_whole {U : List UInt8} (h : U.all isDg = true) : cut1 U 46 = (U, [], false) := cut1_none' h
theorem index_other : ∀ (a m : List UInt8) (c : UInt8), a.all isDg = true → c ≠ 46 → ∀ i : Nat, Lib.indexByte (a ++ c :: m) 46 = (i : Int) → a.length < i
  | [], m, c, _, hc, i, h => by
    have e : (c == 46) = false := by rw [beq_eq_false_iff_ne]; exact hc
    simp only [List.nil_append, Lib.indexByte, e] at h
    split at h
    · simp at *
    · split at h
      · omega
      · have := (indexByte_bd m 46).1
        rename_i g
        simp at g
        simp
        omega
  | d :: a, m, c, ha, hc, i, h => by
    have hd : isDg d = true ∧ a.all isDg = true := by simpa using ha
    have b := isDg_bd hd.1
    have e : (d == 46) = false := by
      rw [beq_eq_false_iff_ne]
      intro q
      rw [q] at b
      simp at b
    simp only [List.cons_append, Lib.indexByte, e] at h
    split at h
    · simp at *
    · split at h
      · omega
      · obtain ⟨j, hj⟩ : ∃ j : Nat, Lib.indexByte (a ++ c :: m) 46 = (j : Int) := ⟨(i - 1 : Int).toNat, by
          have := (indexByte_bd (a ++ c :: m) 46).1
          rename_i g
          simp at g
          omega⟩
        have := index_other a m c hd.2 hc j hj
        simp
        omega
theorem pOk_other {U : List UInt8} {k : Nat} {c : UInt8} (h : (U.take k).all isDg = true) (hk : U[k]? = some c) (hd : isDg c = false) (hc : c ≠ 46) : pOk (cut1 U 46).1 (cut1 U 46).2.1 (cut1 U 46).2.2 = false := by
  have lk : k < U.length := (List.getElem?_eq_some_iff.1 hk).1
  have e : U = U.take k ++ c :: U.drop (k + 1) := by
    have := List.take_append_drop k U
    rw [List.drop_eq_getElem_cons lk, (List.getElem?_eq_some_iff.1 hk).2] at this
    exact this.symm
  have key : dgs (cut1 U 46).1 = false := by
    have hin : ∀ i, k < i → (U.take i).all isDg = false := fun i hi => by
      rw [List.all_eq_false]
      refine ⟨c, ?_, by rw [hd]; simp⟩
      have : (U.take i)[k]? = some c := by rw [List.getElem?_take_of_lt hi]; exact hk
      exact List.mem_of_getElem? this
    rcases Int.lt_or_le (Lib.indexByte U 46) 0 with g | g
    · rw [cut1_miss (by omega)]
      unfold dgs
      have := hin U.length lk
      rw [List.take_length] at this
      simp [this]
    · obtain ⟨i, hi⟩ : ∃ i : Nat, Lib.indexByte U 46 = (i : Int) := ⟨_, (Int.toNat_of_nonneg g).symm⟩
      have lt := index_other (U.take k) (U.drop (k + 1)) c h hc i (by rw [← e]; exact hi)
      rw [List.length_take, Nat.min_eq_left (by omega)] at lt
      rw [cut1_hit hi]
      unfold dgs
      simp [hin i lt]
  unfold pOk
  rw [key]
  rfl
theorem take_all {U : List UInt8} (h : (U.take U.length).all isDg = true) : U.all isDg = true := by rwa [List.take_length] at h
theorem dgs_run {U : List UInt8} {k : Nat} (r : Run U k) : dgs U = decide (k = U.length ∧ k ≠ 0) := by
  unfold dgs
  by_cases e : k = U.length
  · subst e
    rw [take_all r.dig]
    cases U with
    | nil => simp
    | cons => simp
  · have le := r.le
    have lt : k < U.length := by omega
    have hc : U[k]? = some U[k] := List.getElem?_eq_getElem lt
    have : U.all isDg = false := by
      rw [List.all_eq_false]
      exact ⟨U[k], List.getElem_mem lt, by rw [r.stop _ hc]; simp⟩
    simp [this, e]
/-- the first run is empty, or begins with a nought too many -/
theorem run_bad {U : List UInt8} {k : Nat} (r : Run U k) (h : k = 0 ∨ lead0 (U.take k) = true) : pOk (cut1 U 46).1 (cut1 U 46).2.1 (cut1 U 46).2.2 = false := by
  by_cases e : k = U.length
  · have ha : U.all isDg = true := take_all (e ▸ r.dig)
    rw [cut_whole ha]
    rw [e, List.take_length] at h
    unfold pOk dgs
    rcases h with h | h
    · have : U = [] := List.length_eq_zero_iff.1 h
      subst this
      simp
    · simp [h]
  · have le := r.le
    have lt : k < U.length := by omega
    have hc : U[k]? = some U[k] := List.getElem?_eq_getElem lt
    by_cases g : U[k] = 46
    · rw [g] at hc
      rw [cut_at U k r.dig hc]
      unfold pOk dgs
      rcases h with h | h
      · subst h; simp
      · simp [h]
    · exact pOk_other r.dig hc (r.stop _ hc) g
theorem run_whole {U : List UInt8} {k : Nat} (r : Run U k) (h0 : k ≠ 0) (hl : lead0 (U.take k) = false) (e : k = U.length) : cut1 U 46 = (U, [], false) ∧ pOk U [] false = true := by
  have ha : U.all isDg = true := take_all (e ▸ r.dig)
  refine ⟨cut_whole ha, ?_⟩
  rw [e, List.take_length] at hl
  unfold pOk
  rw [dgs_run r, hl]
  simp [e, show U ≠ [] from fun q => h0 (by rw [e, q]; rfl)]
theorem run_point {U : List UInt8} {k j : Nat} (r : Run U k) (h0 : k ≠ 0) (hl : lead0 (U.take k) = false) (hc : U[k]? = some 46) (q : Run (U.drop (k + 1)) j) : cut1 U 46 = (U.take k, U.drop (k + 1), true) ∧ pOk (U.take k) (U.drop (k + 1)) true = decide (j = (U.drop (k + 1)).length ∧ j ≠ 0) := by
  refine ⟨cut_at U k r.dig hc, ?_⟩
  have lt : k < U.length := (List.getElem?_eq_some_iff.1 hc).1
  have d1 : dgs (U.take k) = true := by
    unfold dgs
    rw [r.dig]
    have : U.take k ≠ [] := fun z => h0 (by
      have := congrArg List.length z
      rw [List.length_take, Nat.min_eq_left (by omega)] at this
      simpa using this)
    simp [this]
  unfold pOk
  rw [d1, hl, dgs_run q]
  simp
/-- what is told of digits is what Fit tells -/
theorem digits_told {N D : Int} {v k : Nat} (B : Bool) (hD : 0 < D) (hv : v < 10 ^ 200) (h : N * (10 : Int) ^ k = (v : Int) * D) : fitT (if B = true then -N else N) D = (nC B v (-(k : Int)), nX B v (-(k : Int)), nR B v (-(k : Int))) := by
  have hS : Dm.sg B v = Dm.sg B v := rfl
  obtain ⟨s1, s2⟩ := Dm.sg_near (B := B) (N := v) hS (-(k : Int))
  unfold nC nX nR
  rw [s1, s2]
  refine fit_exact hD (by rw [Dm.sg_abs]; exact hv) ?_
  rw [show (-(-(k : Int))).toNat = k by omega, show (-(k : Int)).toNat = 0 by omega, Int.pow_zero, Int.mul_one]
  unfold Dm.sg
  cases B
  · simpa using h
  · simp [Int.neg_mul, h]
end Go.Proofs.YtibkemolmpcdcaaGreatDoor
