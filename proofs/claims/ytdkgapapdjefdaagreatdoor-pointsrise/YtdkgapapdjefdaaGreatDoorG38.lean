/- likeNumber. -/
import Derived.Test.YtdkgapapdjefdaaGreatDoorG37
import Derived.Laws.EntriesVeiled
import Derived.BigRegion
namespace Go.Proofs.YtdkgapapdjefdaaGreatDoor
open Go.RowKit Go.Sort

/-- how many edges are below -/
def nbN (es : List (Int × Int)) (d : Int × Int) : Nat := es.countP fun e => decide (vR e < vR d)
/-- which point is like this number -/
def likeN (es : List (Int × Int)) (d : Int × Int) : Nat := if es[nbN es d]? = some d then 2 * nbN es d + 1 else 2 * nbN es d

theorem count_at (es : List (Int × Int)) (d : Int × Int) : (List.range es.length).countP (fun i => !(match es[i]? with | some e => decide (vR d ≤ vR e) | none => true)) = nbN es d := by
  unfold nbN
  have h : es = (List.range es.length).map (fun i => es[i]!) := by
    apply List.ext_getElem
    · simp
    · intro i h1 h2
      simp [h1]
  conv => rhs; rw [h]
  rw [List.countP_map]
  apply List.countP_congr
  intro i hi
  have hi' : i < es.length := by simpa using hi
  simp [hi']

theorem Ahd.of_grown (w : World) (q : Nat) (os : Array Obj) : Ahd w (Sort.grow (w.drewN q) os) := ⟨below_grown_sl _ w q os (Nat.le_refl _), by show w.drawn ≤ w.drawn + q; omega⟩

set_option maxRecDepth 10000 in
set_option maxHeartbeats 4000000 in
theorem likeNumber_any (es l : List (Int × Int)) (d : Int × Int) (g cap : Nat) (w : World) (hP : IsPts es l) (hes : es.Pairwise (fun x y => vR x < vR y)) (hl : es.length ≤ 1000000) (hko : ∀ e ∈ es, Dm.wrongN e.1 e.2 = 0) (hkd : Dm.wrongN d.1 d.2 = 0) (hr : RowL w g (l.map numT)) :
    Calls Tryz.prog 23 #[.slice (some ⟨g, 0, none⟩) l.length cap, .agg #[.int .i64 d.1, .int .i64 d.2]] w fun z w' => z = .returned (.int .i64 (likeN es d : Int)) ∧ Below w.heap.size w w' := by
  have hll := hP.len
  have hdiv : (l.length : Int) / 2 = (es.length : Int) := by omega
  have hlb : l.length ≤ 2000001 := by omega
  obtain ⟨W0, hW0⟩ : ∃ W0, W0 = ((w.alloc (.cells #[.slice (some ⟨g, 0, none⟩) l.length cap] 25)).alloc (.cells #[.int .i64 d.1, .int .i64 d.2] 24)).alloc (.cells #[.func (.func 48) #[] #[.pointer (some ⟨w.heap.size, 0, none⟩)]] 92) := ⟨_, rfl⟩
  have hb0 : Below w.heap.size w W0 := by rw [hW0]; exact (((Below.refl _ w).alloc (Nat.le_refl _) _).alloc (by simp) _).alloc (by simp; omega) _
  have c2 : W0.cell? ⟨w.heap.size, 0, none⟩ = some (.slice (some ⟨g, 0, none⟩) l.length cap) := by rw [hW0]; simp [go_sem]
  have d3 : BxD W0 (w.heap.size + 1) d := by rw [hW0]; exact ⟨by simp [go_sem], by simp [go_sem]⟩
  have c6 : W0.cell? ⟨w.heap.size + 1 + 1, 0, none⟩ = some (.func (.func 48) #[] #[.pointer (some ⟨w.heap.size, 0, none⟩)]) := by rw [hW0]; simp [go_sem]
  have r0 := hr.keep hb0
  have NBC := hide (fun (i : Nat) (e : Int × Int) (he : es[i]? = some e) wx (ha : Ahd W0 wx) => notBelow_any l i g cap w.heap.size (w.heap.size + 1 + 1) (w.heap.size + 1) e d wx ((hP.edge i (List.getElem?_eq_some_iff.1 he).1).trans he) (by omega) (hko e (List.mem_of_getElem? he)) hkd (r0.keep ha.b) ((ha.b.cell (p := ⟨w.heap.size, 0, none⟩) (lt_of_cell c2)).trans c2) ((ha.b.cell (p := ⟨w.heap.size + 1 + 1, 0, none⟩) (lt_of_cell c6)).trans c6) (d3.keep ha.b))
  have EDG := hide (fun (i : Nat) (e : Int × Int) (he : es[i]? = some e) wx (ha : Ahd W0 wx) => edge_any l i g cap w.heap.size e wx ((hP.edge i (List.getElem?_eq_some_iff.1 he).1).trans he) (by omega) (r0.keep ha.b) ((ha.b.cell (p := ⟨w.heap.size, 0, none⟩) (lt_of_cell c2)).trans c2))
  have SR := Any.sort_Search Tryz.laysSearch 50 #[.pointer (some ⟨w.heap.size + 1 + 1, 0, none⟩), .pointer (some ⟨w.heap.size + 1, 0, none⟩)] es.length (fun i => match es[i]? with | some e => decide (vR d ≤ vR e) | none => true) W0 enterNotBelow (by omega) (fun m os i hi => by
      obtain ⟨e, he⟩ : ∃ e, es[i]? = some e := ⟨_, List.getElem?_eq_getElem hi⟩
      refine (unhide NBC i e he _ (Ahd.of_grown W0 m os)).mono ?_
      rintro z w' ⟨rfl, ha⟩
      exact ⟨by rw [he], ha.grown⟩) (fun a b hab hb h => by
      obtain ⟨eb, heb⟩ : ∃ e, es[b]? = some e := ⟨_, List.getElem?_eq_getElem hb⟩
      obtain ⟨ea, hea⟩ : ∃ e, es[a]? = some e := ⟨_, List.getElem?_eq_getElem (by omega)⟩
      rw [hea] at h
      rw [heb]
      simp only [decide_eq_true_eq] at h ⊢
      rcases Nat.lt_or_eq_of_le hab with q | q
      · have := (List.pairwise_iff_getElem.1 hes) a b (by omega) hb q
        have e1 : es[a]'(by omega) = ea := Option.some.inj ((List.getElem?_eq_getElem (by omega)).symm.trans hea)
        have e2 : es[b] = eb := Option.some.inj ((List.getElem?_eq_getElem hb).symm.trans heb)
        rw [e1, e2] at this
        omega
      · subst q
        rw [hea] at heb
        cases heb
        exact h)
  rw [count_at] at SR
  have SR' := hide SR
  have d30 := d3.c0
  have d31 := d3.c1
  have hb0' := hide hb0
  have eE := enterEdge
  clear SR NBC hr r0 hes hko hkd c2 d3 hb0 hll
  have hnb : nbN es d ≤ es.length := List.countP_le_length
  have HL := hide (show likeN es d = if es[nbN es d]? = some d then 2 * nbN es d + 1 else 2 * nbN es d from rfl)
  generalize likeN es d = N at *
  generalize nbN es d = b at *
  have l6 := lt_of_cell c6
  have l3 := lt_of_cell d30
  go_enter Tryz.func23, Tryz.ntmps23
  go_wp2_with fail
  rw [← hW0]
  clear hW0
  refine (unhide SR').mono ?_
  rintro z w1 ⟨rfl, q1, os1, rfl⟩
  have ha1 := Ahd.of_grown W0 q1 os1
  generalize Sort.grow (W0.drewN q1) os1 = w1 at *
  have f6 := (ha1.b.cell (p := ⟨w.heap.size + 1 + 1, 0, none⟩) l6).trans c6
  have f30 := (ha1.b.cell (p := ⟨w.heap.size + 1, 0, none⟩) l3).trans d30
  have f31 := (ha1.b.cell (p := ⟨w.heap.size + 1, 1, none⟩) l3).trans d31
  have HA1 := hide ha1
  clear ha1 SR' c6 d30 d31
  by_cases hlt : b < es.length
  · have hlt' : (b : Int) < (es.length : Int) := by omega
    obtain ⟨e, he⟩ : ∃ e, es[b]? = some e := ⟨_, List.getElem?_eq_getElem hlt⟩
    have EG := hide (fun wx (h : Ahd w1 wx) => unhide EDG b e he wx ((unhide HA1).trans h))
    have hN : Hid (N = if e = d then 2 * b + 1 else 2 * b) := hide (by
      rw [unhide HL, he]
      simp)
    have EQ : ∀ wx, (Op.equal 24 (.agg #[.int .i64 e.1, .int .i64 e.2]) (.agg #[.int .i64 d.1, .int .i64 d.2])).run Tryz.prog wx = .ok (decide (e = d)) wx := equal_D e d
    clear EDG HL he
    go_wp2_with fail
    have hl6 : w.heap.size + 1 + 1 < w1.heap.size := lt_of_cell f6
    have hl3 : w.heap.size + 1 < w1.heap.size := lt_of_cell f30
    have DR := hide ((Ahd.refl w1).drew)
    clear EQ
    obtain ⟨e0, e1⟩ := e
    obtain ⟨d0, d1⟩ := d
    simp only at f30 f31 EG
    by_cases h1 : e0 = d0
    · subst h1
      by_cases h2' : e1 = d1
      · subst h2'
        have H2 : Hid (N = 2 * b + 1) := hide (by rw [unhide hN, if_pos rfl])
        clear hN
        go_region_with (refine (unhide EG _ (unhide DR)).mono ?_
                        rintro z w2 ⟨rfl, h2⟩
                        have x0 : w2.cell? ⟨w.heap.size + 1, 0, none⟩ = some (.int .i64 e0) := (h2.b.cell (p := ⟨w.heap.size + 1, 0, none⟩) hl3).trans f30
                        have x1 : w2.cell? ⟨w.heap.size + 1, 1, none⟩ = some (.int .i64 e1) := (h2.b.cell (p := ⟨w.heap.size + 1, 1, none⟩) hl3).trans f31)
        all_goals
          go_wp2
          go_ret
          exact ⟨by rw [unhide H2]; rfl, (unhide hb0').trans ((((unhide HA1).drew).trans h2).b.mono (unhide hb0').size)⟩
      · have H2 : Hid (N = 2 * b) := hide (by rw [unhide hN, if_neg (fun q => h2' (congrArg Prod.snd q))])
        clear hN
        go_region_with (refine (unhide EG _ (unhide DR)).mono ?_
                        rintro z w2 ⟨rfl, h2⟩
                        have x0 : w2.cell? ⟨w.heap.size + 1, 0, none⟩ = some (.int .i64 e0) := (h2.b.cell (p := ⟨w.heap.size + 1, 0, none⟩) hl3).trans f30
                        have x1 : w2.cell? ⟨w.heap.size + 1, 1, none⟩ = some (.int .i64 d1) := (h2.b.cell (p := ⟨w.heap.size + 1, 1, none⟩) hl3).trans f31)
        all_goals
          go_wp2
          go_ret
          exact ⟨by rw [unhide H2]; rfl, (unhide hb0').trans ((((unhide HA1).drew).trans h2).b.mono (unhide hb0').size)⟩
    · have H2 : Hid (N = 2 * b) := hide (by rw [unhide hN, if_neg (fun q => h1 (congrArg Prod.fst q))])
      clear hN
      go_region_with (refine (unhide EG _ (unhide DR)).mono ?_
                      rintro z w2 ⟨rfl, h2⟩
                      have x0 : w2.cell? ⟨w.heap.size + 1, 0, none⟩ = some (.int .i64 d0) := (h2.b.cell (p := ⟨w.heap.size + 1, 0, none⟩) hl3).trans f30
                      have x1 : w2.cell? ⟨w.heap.size + 1, 1, none⟩ = some (.int .i64 d1) := (h2.b.cell (p := ⟨w.heap.size + 1, 1, none⟩) hl3).trans f31)
      all_goals
        go_wp2
        go_ret
        exact ⟨by rw [unhide H2]; rfl, (unhide hb0').trans ((((unhide HA1).drew).trans h2).b.mono (unhide hb0').size)⟩
  · have hlt' : ¬ (b : Int) < (es.length : Int) := by omega
    have H2 : Hid (N = 2 * b) := hide (by rw [unhide HL, List.getElem?_eq_none (by omega), if_neg (by simp)])
    clear EDG HL
    go_wp2_with fail
    go_region
    all_goals
      go_wp2
      go_ret
      exact ⟨by rw [unhide H2]; rfl, (unhide hb0').trans (((unhide HA1).drew).b.mono (unhide hb0').size)⟩
end Go.Proofs.YtdkgapapdjefdaaGreatDoor

/- likeText, likeTruth. -/
namespace Go.Proofs.YtdkgapapdjefdaaGreatDoor
open Go.RowKit Go.Sort

/-- how many points are not more -/
def nbT (ps : List ByteArray) (s : ByteArray) : Nat := ps.countP fun p => !bl s p
theorem gtr_bl (p s : ByteArray) : (!(Op.bytesLess p.toList s.toList || p.toList == s.toList)) = bl s p := by
  have e : (p.toList == s.toList) = decide (p = s) := by
    by_cases h : p = s
    · subst h; simp
    · rw [decide_eq_false h, beq_eq_false_iff_ne]
      intro q
      rw [ByteArray.toList_eq, ByteArray.toList_eq] at q
      exact h (WideShapes.bytes_inj q)
  rw [e]
  show (!(bl p s || decide (p = s))) = bl s p
  rcases bl_tri p s with ⟨h1, h2, h3⟩ | ⟨h1, h2, h3⟩ | ⟨h1, h2, h3⟩
  · simp [h1, h2]
  · simp [h1, h2, h3]
  · rw [h2]; simp [h3]

theorem gtr_bl2 (p s : ByteArray) : (!Op.bytesLess p.toList s.toList && !p.toList == s.toList) = bl s p := by
  rw [← gtr_bl]
  cases Op.bytesLess p.toList s.toList <;> cases (p.toList == s.toList) <;> rfl

theorem countT_at (es : List ByteArray) (d : ByteArray) : (List.range es.length).countP (fun i => !(match es[i]? with | some e => bl d e | none => true)) = nbT es d := by
  unfold nbT
  have h : es = (List.range es.length).map (fun i => (es[i]?).getD ⟨#[]⟩) := by
    apply List.ext_getElem
    · simp
    · intro i h1 h2
      simp [h1]
  conv => rhs; rw [h]
  rw [List.countP_map]
  apply List.countP_congr
  intro i hi
  have hi' : i < es.length := by simpa using hi
  simp [hi']

set_option maxHeartbeats 4000000 in
theorem more_any (l : List ByteArray) (i g cap p q : Nat) (e s : ByteArray) (w : World) (he : l[i]? = some e) (hr : RowL w g (l.map txtT)) (hp : w.cell? ⟨p, 0, none⟩ = some (.slice (some ⟨g, 0, none⟩) l.length cap))
    (hq : w.cell? ⟨q, 0, none⟩ = some (.string s)) :
    Calls Tryz.prog 51 #[.int .i64 (i : Int), .pointer (some ⟨p, 0, none⟩), .pointer (some ⟨q, 0, none⟩)] w fun z w' => z = .returned (.bool (bl s e)) ∧ Ahd w w' := by
  have hi : i < l.length := (List.getElem?_eq_some_iff.1 he).1
  have hi' : (i : Int) < (l.length : Int) := by omega
  have hT : (l.map txtT)[i]? = some (txtT e) := by rw [List.getElem?_map, he]; rfl
  have c4 : w.cell? ⟨g, i * 6 + 4, none⟩ = some (.string e) := hr.at0 _ _ 4 _ hT rfl
  have lg := hr.low
  have lp := lt_of_cell hp
  have lq := lt_of_cell hq
  have HG := hide (gtr_bl2 e s)
  clear he hT hr
  go_enter Tryz.func51, Tryz.ntmps51
  go_wp2_with fail
  go_region
  all_goals
    go_wp2
    go_ret
    refine ⟨?_, (Ahd.refl w).drew⟩
    rw [← unhide HG]
    rfl
theorem enterMore : ∀ args w, (callFunc 51 args).run Tryz.prog w = .ok (.enter 51 args) w := enters_of Tryz.func51 (by kernel_rfl) rfl

set_option maxRecDepth 10000 in
set_option maxHeartbeats 4000000 in
theorem likeText_any (l : List ByteArray) (s : ByteArray) (g cap : Nat) (w : World) (hes : l.Pairwise (fun x y => bl x y = true)) (hl : l.length ≤ 2000001) (hr : RowL w g (l.map txtT)) :
    Calls Tryz.prog 24 #[.slice (some ⟨g, 0, none⟩) l.length cap, .string s] w fun z w' => z = .returned (.int .i64 ((nbT l s : Int) - 1)) ∧ Below w.heap.size w w' := by
  obtain ⟨W0, hW0⟩ : ∃ W0, W0 = (w.alloc (.cells #[.slice (some ⟨g, 0, none⟩) l.length cap] 25)).alloc (.cells #[.string s] 9) := ⟨_, rfl⟩
  have hb0 : Below w.heap.size w W0 := by rw [hW0]; exact ((Below.refl _ w).alloc (Nat.le_refl _) _).alloc (by simp) _
  have c2 : W0.cell? ⟨w.heap.size, 0, none⟩ = some (.slice (some ⟨g, 0, none⟩) l.length cap) := by rw [hW0]; simp [go_sem]
  have c3 : W0.cell? ⟨w.heap.size + 1, 0, none⟩ = some (.string s) := by rw [hW0]; simp [go_sem]
  have r0 := hr.keep hb0
  have SR := Any.sort_Search Tryz.laysSearch 51 #[.pointer (some ⟨w.heap.size, 0, none⟩), .pointer (some ⟨w.heap.size + 1, 0, none⟩)] l.length (fun i => match l[i]? with | some e => bl s e | none => true) W0 enterMore (by omega) (fun m os i hi => by
      obtain ⟨e, he⟩ : ∃ e, l[i]? = some e := ⟨_, List.getElem?_eq_getElem hi⟩
      have ha := Ahd.of_grown W0 m os
      refine (more_any l i g cap w.heap.size (w.heap.size + 1) e s _ he (r0.keep ha.b) ((ha.b.cell (p := ⟨w.heap.size, 0, none⟩) (lt_of_cell c2)).trans c2) ((ha.b.cell (p := ⟨w.heap.size + 1, 0, none⟩) (lt_of_cell c3)).trans c3)).mono ?_
      rintro z w' ⟨rfl, ha⟩
      exact ⟨by rw [he], ha.grown⟩) (fun a b hab hb h => by
      obtain ⟨eb, heb⟩ : ∃ e, l[b]? = some e := ⟨_, List.getElem?_eq_getElem hb⟩
      obtain ⟨ea, hea⟩ : ∃ e, l[a]? = some e := ⟨_, List.getElem?_eq_getElem (by omega)⟩
      rw [hea] at h
      rw [heb]
      rcases Nat.lt_or_eq_of_le hab with q | q
      · have := (List.pairwise_iff_getElem.1 hes) a b (by omega) hb q
        have e1 : l[a]'(by omega) = ea := Option.some.inj ((List.getElem?_eq_getElem (by omega)).symm.trans hea)
        have e2 : l[b] = eb := Option.some.inj ((List.getElem?_eq_getElem hb).symm.trans heb)
        rw [e1, e2] at this
        exact bl_trans s ea eb h this
      · subst q
        rw [hea] at heb
        cases heb
        exact h)
  rw [countT_at] at SR
  have SR' := hide SR
  have hb0' := hide hb0
  have hn : nbT l s ≤ l.length := List.countP_le_length
  generalize nbT l s = n at *
  clear SR hr r0 hes c2 c3 hb0
  go_enter Tryz.func24, Tryz.ntmps24
  go_wp2_with fail
  rw [← hW0]
  clear hW0
  refine (unhide SR').mono ?_
  rintro z w1 ⟨rfl, q1, os1, rfl⟩
  have ha1 := Ahd.of_grown W0 q1 os1
  generalize Sort.grow (W0.drewN q1) os1 = w1 at *
  go_wp2
  go_ret
  exact ⟨rfl, (unhide hb0').trans (ha1.b.mono (unhide hb0').size)⟩

set_option maxHeartbeats 1000000 in
theorem likeTruth_any (b : Bool) (w : World) : Calls Tryz.prog 25 #[.bool b] w fun z w' => z = .returned (.int .i64 (if b = true then 1 else 0)) ∧ w' = w := by
  cases b
  all_goals
    go_enter Tryz.func25, Tryz.ntmps25
    go_wp2
    go_ret
    exact ⟨rfl, rfl⟩
end Go.Proofs.YtdkgapapdjefdaaGreatDoor

/- Plain words: texts that stand for all rise; which one is like a value. -/
namespace Go.Proofs.YtdkgapapdjefdaaGreatDoor
open Go.RowKit Go.Sort

theorem less_zero : ∀ a : List UInt8, Op.bytesLess a (a ++ [0]) = true
  | [] => by simp [Op.bytesLess]
  | x :: a => by
    have := less_zero a
    simp [Op.bytesLess, this]
theorem zero_least : ∀ a b : List UInt8, Op.bytesLess a b = true → Op.bytesLess b (a ++ [0]) = false
  | [], [], h => by simp [Op.bytesLess] at h
  | [], y :: b, _ => by
    cases b with
    | nil => simp [Op.bytesLess]
    | cons z b => simp [Op.bytesLess]
  | x :: a, [], h => by simp [Op.bytesLess] at h
  | x :: a, y :: b, h => by
    have ih := zero_least a b
    simp only [Op.bytesLess, List.cons_append, Bool.or_eq_true, decide_eq_true_eq, Bool.and_eq_true, beq_iff_eq] at h ⊢
    rcases h with h | ⟨h1, h2⟩
    · have h3 : ¬ y < x := by
        intro q
        have q1 := UInt8.lt_iff_toNat_lt.1 h
        have q2 := UInt8.lt_iff_toNat_lt.1 q
        omega
      have h4 : ¬ y = x := by
        intro q
        subst q
        have q1 := UInt8.lt_iff_toNat_lt.1 h
        omega
      simp [h3, h4]
    · subst h1
      have h3 : ¬ x < x := by
        intro q
        have q2 := UInt8.lt_iff_toNat_lt.1 q
        omega
      simp [h3, ih h2]
theorem zT_list (e : ByteArray) : (zT e).toList = e.toList ++ [0] := by
  rw [ByteArray.toList_eq, ByteArray.toList_eq]
  unfold zT
  simp
theorem bl_zT (e : ByteArray) : bl e (zT e) = true := by unfold bl; rw [zT_list]; exact less_zero _
theorem zT_least {e f : ByteArray} (h : bl e f = true) : bl f (zT e) = false := by unfold bl at h ⊢; rw [zT_list]; exact zero_least _ _ h

/-- what was put together so far rises, and is not above what comes -/
theorem foldT_rise : ∀ (es acc : List ByteArray) (la : ByteArray), acc.Pairwise (fun x y => bl x y = true) → acc.getLast? = some la → (∀ x ∈ acc, bl la x = false) → (∀ e ∈ es, bl e la = false) → es.Pairwise (fun x y => bl x y = true) → (es.foldl stepT acc).Pairwise (fun x y => bl x y = true)
  | [], acc, la, h, _, _, _, _ => h
  | e :: es, acc, la, h, hla, hmax, hlo, hes => by
    obtain ⟨he1, he2⟩ := List.pairwise_cons.1 hes
    have hle := hlo e (by simp)
    have below : ∀ x ∈ acc, x = la ∨ bl x la = true := fun x hx => by
      rcases bl_tri x la with ⟨q, _⟩ | ⟨_, q, _⟩ | ⟨_, _, q⟩
      · exact .inr q
      · rw [hmax x hx] at q; cases q
      · exact .inl q
    have lastz : ∀ l : List ByteArray, (l ++ [zT e]).getLast? = some (zT e) := fun l => by simp
    have rest : ∀ f ∈ es, bl f (zT e) = false := fun f hf => zT_least (he1 f hf)
    rw [List.foldl_cons]
    by_cases hq : acc.getLast? = some e
    · rw [stepT_yes hq]
      rw [hla] at hq
      have hq := Option.some.inj hq
      subst hq
      have up : ∀ x ∈ acc, bl x (zT la) = true := fun x hx => by
        rcases below x hx with rfl | q
        · exact bl_zT x
        · exact bl_trans x la _ q (bl_zT la)
      refine foldT_rise es _ (zT la) ?_ (lastz acc) ?_ rest he2
      · rw [List.pairwise_append]
        exact ⟨h, by simp, fun x hx y hy => by rw [List.mem_singleton.1 hy]; exact up x hx⟩
      · intro x hx
        rcases List.mem_append.1 hx with hx | hx
        · rcases bl_tri (zT la) x with ⟨q, _⟩ | ⟨q, _⟩ | ⟨q, _⟩
          · have := bl_trans x (zT la) x (up x hx) q
            rw [bl_irr] at this
            cases this
          · exact q
          · exact q
        · rw [List.mem_singleton.1 hx]
          exact bl_irr _
    · rw [stepT_no hq]
      have hlt : bl la e = true := by
        rcases bl_tri la e with ⟨q, _⟩ | ⟨_, q, _⟩ | ⟨_, _, q⟩
        · exact q
        · rw [hle] at q; cases q
        · subst q; exact absurd hla hq
      have up : ∀ x ∈ acc, bl x e = true := fun x hx => by
        rcases below x hx with rfl | q
        · exact hlt
        · exact bl_trans x la _ q hlt
      have up2 : ∀ x ∈ acc ++ [e], bl x (zT e) = true := fun x hx => by
        rcases List.mem_append.1 hx with hx | hx
        · exact bl_trans x e _ (up x hx) (bl_zT e)
        · rw [List.mem_singleton.1 hx]; exact bl_zT e
      refine foldT_rise es _ (zT e) ?_ (lastz (acc ++ [e])) ?_ rest he2
      · rw [List.pairwise_append]
        refine ⟨?_, by simp, fun x hx y hy => by rw [List.mem_singleton.1 hy]; exact up2 x hx⟩
        rw [List.pairwise_append]
        exact ⟨h, by simp, fun x hx y hy => by rw [List.mem_singleton.1 hy]; exact up x hx⟩
      · intro x hx
        rcases List.mem_append.1 hx with hx | hx
        · rcases bl_tri (zT e) x with ⟨q, _⟩ | ⟨q, _⟩ | ⟨q, _⟩
          · have := bl_trans x (zT e) x (up2 x hx) q
            rw [bl_irr] at this
            cases this
          · exact q
          · exact q
        · rw [List.mem_singleton.1 hx]
          exact bl_irr _
theorem bl_nil (e : ByteArray) : bl e ⟨#[]⟩ = false := by
  unfold bl
  rw [ByteArray.toList_eq ⟨#[]⟩]
  cases e.toList <;> rfl
theorem ptsT_rise {es : List ByteArray} (h : es.Pairwise (fun x y => bl x y = true)) : (ptsT es).Pairwise (fun x y => bl x y = true) :=
  foldT_rise es [⟨#[]⟩] ⟨#[]⟩ (by simp) rfl (fun x hx => by rw [List.mem_singleton.1 hx]; exact bl_irr _) (fun e _ => bl_nil e) h

/-- the error of Points -/
def ptsErr (kind : Int) (ts : List TS) : Int := if askW kind ts = 0 then (if kind = 4 ∧ roomy (txtE ts) = false then 4 else 0) else askW kind ts
def Tree.nm : Tree → Int × Int | .mk _ _ c x _ _ => (c, x)
def Tree.tx : Tree → ByteArray | .mk _ _ _ _ t _ => t
def Tree.ys : Tree → Bool | .mk _ y _ _ _ _ => y
/-- which point is like a value -/
def likeI (kind : Int) (ts : List TS) (v : Tree) : Int := if kind = 3 then (likeN (numE ts) v.nm : Int) else if kind = 4 then (nbT (ptsT (txtE ts)) v.tx : Int) - 1 else if v.ys = true then 1 else 0
/-- what Like tells -/
def likeF (kind : Int) (ts : List TS) (v : Tree) : Int × Int := if ptsErr kind ts = 0 then (if (wrongF v 0 1).1 = 0 then (if v.kd = kind then (likeI kind ts v, 0) else (0, 9)) else (0, (wrongF v 0 1).1)) else (0, ptsErr kind ts)
end Go.Proofs.YtdkgapapdjefdaaGreatDoor

/- Like. -/
namespace Go.Proofs.YtdkgapapdjefdaaGreatDoor
open Go.RowKit Go.Sort

theorem isPoints_err {kind : Int} {ts : List TS} {er : Int} {ps : List Tree} (h : IsPoints kind ts er ps) : er = ptsErr kind ts := by
  cases h with
  | wrong h => rw [ptsErr, if_neg h]
  | truths h k => rw [ptsErr, if_pos h, if_neg (by omega)]
  | numbers l h k _ => rw [ptsErr, if_pos h, if_neg (by omega)]
  | much h k r => rw [ptsErr, if_pos h, if_pos ⟨k, r⟩]
  | texts h k r => rw [ptsErr, if_pos h, if_neg (by rintro ⟨_, q⟩; rw [r] at q; cases q)]
theorem isPoints_ok {kind : Int} {ts : List TS} {er : Int} {ps : List Tree} (h : IsPoints kind ts er ps) (h0 : er = 0) : askW kind ts = 0 ∧ kindOk kind ∧ ∃ T, ps[0]? = some T ∧ T.kd = kind := by
  cases h with
  | wrong h => exact absurd h0 h
  | truths h k => exact ⟨h, .inl k, boolT false, rfl, k.symm⟩
  | numbers l h k hp =>
    refine ⟨h, .inr (.inl k), ?_⟩
    have hl := hp.len
    obtain ⟨q, hq⟩ : ∃ q, l[0]? = some q := ⟨_, List.getElem?_eq_getElem (by omega)⟩
    exact ⟨numT q, by rw [List.getElem?_map, hq]; rfl, k.symm⟩
  | much h k r => cases h0
  | texts h k r =>
    refine ⟨h, .inr (.inr k), ?_⟩
    have hl := (foldT_len (txtE ts) [⟨#[]⟩]).1
    obtain ⟨q, hq⟩ : ∃ q, (ptsT (txtE ts))[0]? = some q := ⟨_, List.getElem?_eq_getElem (by unfold ptsT; simp at hl; omega)⟩
    exact ⟨txtT q, by rw [List.getElem?_map, hq]; rfl, k.symm⟩
theorem isPoints_num {kind : Int} {ts : List TS} {er : Int} {ps : List Tree} (h : IsPoints kind ts er ps) (hk : kind = 3) (h0 : askW kind ts = 0) : ∃ l, IsPts (numE ts) l ∧ ps = l.map numT := by
  cases h with
  | wrong h => exact absurd h0 h
  | truths _ k => omega
  | numbers l _ _ hp => exact ⟨l, hp, rfl⟩
  | much _ k _ => omega
  | texts _ k _ => omega
theorem isPoints_txt {kind : Int} {ts : List TS} {er : Int} {ps : List Tree} (h : IsPoints kind ts er ps) (hk : kind = 4) (h0 : askW kind ts = 0) (he : er = 0) : roomy (txtE ts) = true ∧ ps = (ptsT (txtE ts)).map txtT := by
  cases h with
  | wrong h => exact absurd h0 h
  | truths _ k => omega
  | numbers l _ k hp => omega
  | much _ k _ => cases he
  | texts _ k r => exact ⟨r, rfl⟩
theorem isPoints_bool {kind : Int} {ts : List TS} {er : Int} {ps : List Tree} (h : IsPoints kind ts er ps) (hk : kind = 2) (h0 : askW kind ts = 0) : ps = [boolT false, boolT true] := by
  cases h with
  | wrong h => exact absurd h0 h
  | truths _ k => rfl
  | numbers l _ k hp => omega
  | much _ k _ => omega
  | texts _ k r => omega
theorem wf_right {T : Tree} (h : (wrongF T 0 1).1 = 0) (hk : T.kd = 3) : Dm.wrongN T.nm.1 T.nm.2 = 0 := by
  obtain ⟨k, y, c, x, t, ks⟩ := T
  have hk : k = 3 := hk
  subst hk
  exact wf_num0 h

set_option maxRecDepth 10000 in
set_option maxHeartbeats 8000000 in
theorem like_any (kind : Int) (ts : List TS) (l : Value) (v : Tree) (q : Array Value) (B : Nat) (w : World) (hB : B ≤ w.heap.size) (hl : SlT B w ts l) (hv : Mem B w v q) (hT : TabsIn B w) :
    Calls Tryz.prog 8 #[.int .i64 kind, l, .agg q] w fun e w' => e = .returned (.tuple #[.int .i64 (likeF kind ts v).1, .int .i64 (likeF kind ts v).2]) ∧ Below w.heap.size w w' := by
  have PT := hide (fun wx (hb : Below w.heap.size w wx) => points_any kind ts l B wx (Nat.le_trans hB hb.size) (hl.below (hb.mono hB)) (hT.below (hb.mono hB)))
  have LW := hide (fun wx (hb : Below w.heap.size w wx) => logicWrong_any v q B wx (Nat.le_trans hB hb.size) (Mem.below (hb.mono hB) hv) (hT.below (hb.mono hB)))
  obtain ⟨_, ad, cap, rfl, _⟩ := hl
  obtain ⟨k, y, c, x, t, ks⟩ := v
  rw [Mem] at hv
  obtain ⟨_, _, a, vc, rfl, _⟩ := hv
  have HF := hide (show likeF kind ts (.mk k y c x t ks) = if ptsErr kind ts = 0 then (if (wrongF (.mk k y c x t ks) 0 1).1 = 0 then (if k = kind then (likeI kind ts (.mk k y c x t ks), 0) else (0, 9)) else (0, (wrongF (.mk k y c x t ks) 0 1).1)) else (0, ptsErr kind ts) from rfl)
  have HI := hide (show likeI kind ts (.mk k y c x t ks) = if kind = 3 then (likeN (numE ts) (c, x) : Int) else if kind = 4 then (nbT (ptsT (txtE ts)) t : Int) - 1 else if y = true then 1 else 0 from rfl)
  have HN := hide (fun (h : (wrongF (.mk k y c x t ks) 0 1).1 = 0) (hk : k = 3) => (by subst hk; exact wf_num0 h : Dm.wrongN c x = 0))
  generalize likeF kind ts (.mk k y c x t ks) = R at *
  generalize likeI kind ts (.mk k y c x t ks) = I at *
  generalize (wrongF (.mk k y c x t ks) 0 1).1 = e1 at *
  clear hT
  go_enter Tryz.func8, Tryz.ntmps8
  go_wp2_with fail
  have hba := vbelow_new w (.cells #[.int .i64 k, .bool y, .int .i64 c, .int .i64 x, .string t, .slice a ks.length vc] 27)
  refine (unhide PT _ hba).mono ?_
  rintro e w1 ⟨u, er, ps, rfl, hp, ho, hb1⟩
  have HB1 := hide (bv hba hb1)
  have cs : ∀ j z, (#[Value.int .i64 k, .bool y, .int .i64 c, .int .i64 x, .string t, .slice a ks.length vc])[j]? = some z → w1.cell? ⟨w.heap.size, j, none⟩ = some z := fun j z hz => (hb1.cell (p := ⟨w.heap.size, j, none⟩) (by simp)).trans (by simp [go_sem, hz])
  have s0 := cs 0 _ rfl
  have s1 := cs 1 _ rfl
  have s2 := cs 2 _ rfl
  have s3 := cs 3 _ rfl
  have s4 := cs 4 _ rfl
  have s5 := cs 5 _ rfl
  have hz1 : w.heap.size < w1.heap.size := lt_of_cell s0
  clear cs hba PT hb1
  have her := isPoints_err hp
  by_cases h0 : er = 0
  · obtain ⟨hask, hkok, T0, hT0, hT0k⟩ := isPoints_ok hp h0
    have HP := hide hp
    have HO := hide ho
    have E0 := hide (her.symm.trans h0)
    have ER0 := hide h0
    rw [h0]
    clear her h0 hp ho
    go_wp2_with fail
    refine (unhide LW _ (unhide HB1)).mono ?_
    rintro e w2 ⟨rfl, hb2⟩
    have t0 := (hb2.cell (p := ⟨w.heap.size, 0, none⟩) hz1).trans s0
    have t1 := (hb2.cell (p := ⟨w.heap.size, 1, none⟩) hz1).trans s1
    have t2 := (hb2.cell (p := ⟨w.heap.size, 2, none⟩) hz1).trans s2
    have t3 := (hb2.cell (p := ⟨w.heap.size, 3, none⟩) hz1).trans s3
    have t4 := (hb2.cell (p := ⟨w.heap.size, 4, none⟩) hz1).trans s4
    have HB2 := hide (bv (unhide HB1) hb2)
    have HO2 := hide (own_keep9 (unhide HO) hb2)
    have hz2 : w.heap.size < w2.heap.size := lt_of_cell t0
    clear s0 s1 s2 s3 s4 s5 hz1 hb2 HO HB1 LW
    by_cases he1 : e1 = 0
    · rw [he1]
      obtain ⟨g, pc, rfl, _, RL⟩ := rowL_of (unhide HO2) (by rintro rfl; simp at hT0)
      have g0 : w2.cell? ⟨g, 0, none⟩ = some (.int .i64 kind) := by
        have := RL.at0 0 T0 0 (.int .i64 kind) hT0 (by obtain ⟨a1, a2, a3, a4, a5, a6⟩ := T0; have h : a1 = kind := hT0k; subst h; rfl)
        simpa using this
      have lg := RL.low
      have RL' := hide RL
      have hpl : 0 < ps.length := (List.getElem?_eq_some_iff.1 hT0).1
      have HN' := hide (unhide HN he1)
      have HF' : Hid (R = if k = kind then (I, 0) else (0, 9)) := hide (by rw [unhide HF, if_pos (unhide E0), if_pos he1])
      clear he1 RL HO2 hT0 hT0k HN HF
      by_cases hkk : k = kind
      · subst hkk
        have HR : Hid (R = (I, 0)) := hide (by rw [unhide HF', if_pos rfl])
        have hne : (k != k) = false := by simp
        clear HF'
        rcases (hkok : k = 2 ∨ k = 3 ∨ k = 4) with rfl | rfl | rfl
        · have HI2 : Hid (I = if y = true then 1 else 0) := hide (by rw [unhide HI, if_neg (by decide), if_neg (by decide)])
          have LT := hide (fun wx => likeTruth_any y wx)
          rw [← unhide HI2] at LT
          clear HI2 HI
          go_wp2_with fail
          go_region
          go_wp2_with fail
          refine (unhide LT _).mono ?_
          rintro e w3 ⟨rfl, rfl⟩
          go_wp2
          go_ret2
          rw [unhide HR]
          exact ⟨rfl, (unhide HB2).drew⟩
        · have HI2 : Hid (I = (likeN (numE ts) (c, x) : Int)) := hide (by rw [unhide HI, if_pos rfl])
          obtain ⟨l, hP, rfl⟩ := isPoints_num (unhide HP) rfl hask
          obtain ⟨hf, hl⟩ := numE_few hask
          have LN := hide (fun wx (hb : Below w2.heap.size w2 wx) => likeNumber_any (numE ts) l (c, x) g pc wx hP (numE_rise ts (fun p hp => (hf p hp).ok)) (by omega) (fun p hp => (hf p hp).ok) (unhide HN' rfl) ((unhide RL').keep hb))
          have hlen : (l.map numT).length = l.length := List.length_map ..
          rw [hlen] at hpl ⊢
          clear hP hf HP hlen
          go_wp2_with fail
          go_region
          go_wp2_with fail
          refine (unhide LN _ (Below.refl _ w2).drew).mono ?_
          rintro e w3 ⟨rfl, hb3⟩
          go_wp2
          go_ret2
          rw [unhide HR, unhide HI2]
          exact ⟨rfl, ((unhide HB2).drew).trans (hb3.mono (Nat.le_of_lt hz2))⟩
        · have HI2 : Hid (I = (nbT (ptsT (txtE ts)) t : Int) - 1) := hide (by rw [unhide HI, if_neg (by decide), if_pos rfl])
          obtain ⟨_, rfl⟩ := isPoints_txt (unhide HP) rfl hask (unhide ER0)
          obtain ⟨hf, hl⟩ := txtE_few hask
          have hlen2 := (foldT_len (txtE ts) [⟨#[]⟩]).2
          have LN := hide (fun wx (hb : Below w2.heap.size w2 wx) => likeText_any (ptsT (txtE ts)) t g pc wx (ptsT_rise (txtE_rise ts)) (by unfold ptsT; simp at hlen2; omega) ((unhide RL').keep hb))
          have hlen : ((ptsT (txtE ts)).map txtT).length = (ptsT (txtE ts)).length := List.length_map ..
          rw [hlen] at hpl ⊢
          clear hf HP hlen hlen2
          go_wp2_with fail
          go_region
          go_wp2_with fail
          refine (unhide LN _ (Below.refl _ w2).drew).mono ?_
          rintro e w3 ⟨rfl, hb3⟩
          go_wp2
          go_ret2
          rw [unhide HR, unhide HI2]
          exact ⟨rfl, ((unhide HB2).drew).trans (hb3.mono (Nat.le_of_lt hz2))⟩
      · have hne : (k != kind) = true := by simp [hkk]
        have HR : Hid (R = (0, 9)) := hide (by rw [unhide HF', if_neg hkk])
        clear hkk HF'
        go_wp2_with fail
        go_region
        go_wp2
        go_ret2
        rw [unhide HR]
        exact ⟨rfl, (unhide HB2).drew⟩
    · have he1' : (e1 != 0) = true := by simp [he1]
      have HR : Hid (R = (0, e1)) := hide (by rw [unhide HF, if_pos (unhide E0), if_neg he1])
      clear he1
      go_wp2
      go_ret2
      rw [unhide HR]
      exact ⟨rfl, unhide HB2⟩
  · have h0' : (er != 0) = true := by simp [h0]
    have HR : Hid (R = (0, er)) := hide (by rw [unhide HF, if_neg (by rw [← her]; exact h0), her])
    clear h0 her hp ho
    go_wp2
    go_ret2
    rw [unhide HR]
    exact ⟨rfl, unhide HB1⟩
end Go.Proofs.YtdkgapapdjefdaaGreatDoor

/- alive: the points of one closed test. -/
namespace Go.Proofs.YtdkgapapdjefdaaGreatDoor
open Go.RowKit Go.Sort

def zeroTr : Tree := .mk 0 false 0 0 ⟨#[]⟩ []
def test5 : TS := .mk 3 (.mk 3 false 5 0 ⟨#[]⟩ []) zeroTr false false []
def test5C : Array Value := #[.int .i64 3, .int .i64 3, .bool false, .int .i64 5, .int .i64 0, .string ⟨#[]⟩, .slice none 0 0, .int .i64 0, .bool false, .int .i64 0, .int .i64 0, .string ⟨#[]⟩, .slice none 0 0, .bool false, .bool false, .slice none 0 0]
theorem test5_mem (B : Nat) (w : World) : MemS B w test5 test5C := by
  unfold test5
  rw [MemS]
  refine ⟨by simp, .int .i64 3, .bool false, .int .i64 5, .int .i64 0, .string ⟨#[]⟩, .slice none 0 0, .int .i64 0, .bool false, .int .i64 0, .int .i64 0, .string ⟨#[]⟩, .slice none 0 0, none, 0, ?_, ?_, rfl, fun q => absurd rfl q⟩
  · rw [Mem]
    exact ⟨by decide, by simp, none, 0, rfl, fun q => absurd rfl q⟩
  · unfold zeroTr
    rw [Mem]
    exact ⟨by decide, by simp, none, 0, rfl, fun q => absurd rfl q⟩
theorem test5_slT (w : World) : SlT (w.heap.size + 1) (w.alloc (.cells test5C 35)) [test5] (.slice (some ⟨w.heap.size, 0, none⟩) 1 1) := by
  refine ⟨by simp, some ⟨w.heap.size, 0, none⟩, 1, rfl, fun _ => ⟨w.heap.size, 0, rfl, by omega, ?_⟩⟩
  rw [MemSL]
  refine ⟨⟨test5C, ⟨rfl, fun i v hv => by simp [go_sem, hv]⟩, test5_mem _ _⟩, by rw [MemSL]; trivial⟩
theorem test5_right : askW 3 [test5] = 0 := by
  have hw : wrongS test5 1 = 0 := by
    unfold test5
    rw [ws_one (by omega) (by omega)]
    have : valW (.mk 3 false 5 0 ⟨#[]⟩ []) = 0 := by
      rw [valW, wrongF]
      decide
    rw [oneW, if_pos this, if_pos (by decide)]
  have hf : fitsS test5 3 = true := by
    unfold test5
    rw [fitsS]
    decide
  rw [askW, if_pos (by decide), if_neg (by simp), askL, if_pos hw, if_pos hf, askL]
theorem test5_edges : numE [test5] = [(5, 0)] := by
  have hv : valsL [test5] = [.mk 3 false 5 0 ⟨#[]⟩ []] := by
    unfold test5
    rw [valsL, valsL, vals_one (by omega), List.append_nil]
  unfold numE
  rw [hv]
  simp [insV, numV, insK, sortN]

theorem test5_points {er : Int} {ps : List Tree} (h : IsPoints 3 [test5] er ps) : er = 0 ∧ ∃ q, ps = [numT (4, 0), numT (5, 0), q] := by
  have h0 := isPoints_err h
  have he : ptsErr 3 [test5] = 0 := by rw [ptsErr, if_pos test5_right, if_neg (by omega)]
  obtain ⟨l, hp, rfl⟩ := isPoints_num h rfl test5_right
  refine ⟨h0.trans he, ?_⟩
  rw [test5_edges] at hp
  have hl : l.length = 3 := hp.len
  obtain ⟨a, b, c, rfl⟩ : ∃ a b c, l = [a, b, c] := by
    match l, hl with
    | [a, b, c], _ => exact ⟨a, b, c, rfl⟩
  have h1 := hp.edge 0 (by simp)
  simp at h1
  subst h1
  obtain ⟨q, hq, hv⟩ := hp.first (5, 0) rfl
  simp at hq
  subst hq
  have hk := hp.ok a (by simp)
  have e4 : vR a = Dm.V 4 0 := by
    rw [hv]
    decide
  have := Dm.V_inj hk (show Dm.wrongN 4 0 = 0 by decide) e4
  refine ⟨numT c, ?_⟩
  rw [show a = (4, 0) from Prod.ext this.1 this.2]
  rfl

set_option maxRecDepth 10000 in
set_option maxHeartbeats 4000000 in
theorem alive9_any (B : Nat) (w : World) (hB : B ≤ w.heap.size) (hT : TabsIn B w) :
    Calls Tryz.prog 6 #[] w fun e w' => e = .returned (.bool true) ∧ Below w.heap.size w w' := by
  have hba := vbelow_new w (.cells test5C 35)
  have PT := hide (points_any 3 [test5] _ (w.heap.size + 1) (w.alloc (.cells test5C 35)) (by simp) (test5_slT w) (TabsIn.mono (hT.below (hba.mono hB)) (by omega)))
  unfold test5C at PT hba
  have HBA := hide hba
  clear hT hba
  go_enter Tryz.func6, Tryz.ntmps6
  go_wp2_with fail
  refine (unhide PT).mono ?_
  rintro e w1 ⟨u, er, ps, rfl, hp, ho, hb1⟩
  obtain ⟨rfl, q, rfl⟩ := test5_points hp
  obtain ⟨g, cap, rfl, _, R⟩ := rowL_of ho (by simp)
  have g2 : w1.cell? ⟨g, 2, none⟩ = some (.int .i64 4) := by simpa using R.at0 0 (numT (4, 0)) 2 _ rfl rfl
  have g3 : w1.cell? ⟨g, 3, none⟩ = some (.int .i64 0) := by simpa using R.at0 0 (numT (4, 0)) 3 _ rfl rfl
  have g8 : w1.cell? ⟨g, 8, none⟩ = some (.int .i64 5) := by simpa using R.at0 1 (numT (5, 0)) 2 _ rfl rfl
  have g9 : w1.cell? ⟨g, 9, none⟩ = some (.int .i64 0) := by simpa using R.at0 1 (numT (5, 0)) 3 _ rfl rfl
  have HB1 := hide (bv (unhide HBA) hb1)
  clear R ho hp hb1 PT
  go_wp2
  go_ret
  exact ⟨rfl, unhide HB1⟩
end Go.Proofs.YtdkgapapdjefdaaGreatDoor
