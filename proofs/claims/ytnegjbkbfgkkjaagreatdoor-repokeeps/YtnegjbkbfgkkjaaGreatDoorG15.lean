/- Walks: lists of shapes. -/
import Derived.Test.YtnegjbkbfgkkjaaGreatDoorG09
import Derived.OwnWalk
import Derived.Lib.ItoaMem
import Derived.Laws.MakeOwn
namespace Go.Proofs.YtnegjbkbfgkkjaaGreatDoor
open Go.RowKit

theorem drop_at {α : Type} {l : List α} {m : Nat} {u : α} (hu : l[m]? = some u) : l.drop m = u :: l.drop (m + 1) := by
  have hlt := (List.getElem?_eq_some_iff.1 hu).1
  rw [List.drop_eq_getElem_cons hlt]
  congr 1
  rw [List.getElem?_eq_getElem hlt] at hu
  exact Option.some.inj hu

/-- shapes that can be read, in a block from B on -/
structure SL (B : Nat) (w : World) (v : Value) (l : List Sp) : Prop where
  len : l.length ≤ 1000000
  tell : ∃ a cap, v = .slice a l.length cap ∧ (l ≠ [] → ∃ g off, a = some ⟨g, off, none⟩ ∧ B ≤ g ∧ g < w.heap.size ∧ ∀ i s, l[i]? = some s → w.cell? ⟨g, off + i * 2, none⟩ = some (.int .i64 (s.n : Int)) ∧ w.cell? ⟨g, off + i * 2 + 1, none⟩ = some (.int .i64 s.k))
theorem SL.keep {B : Nat} {w w' : World} {v : Value} {l : List Sp} (h : SL B w v l) (hb : Below w.heap.size w w') : SL B w' v l := by
  obtain ⟨h1, a, cap, h2, h3⟩ := h
  refine ⟨h1, a, cap, h2, fun hne => ?_⟩
  obtain ⟨g, off, ha, hB, hg, hc⟩ := h3 hne
  have c : ∀ o, w'.cell? ⟨g, o, none⟩ = w.cell? ⟨g, o, none⟩ := fun o => hb.cell (p := ⟨g, o, none⟩) hg
  exact ⟨g, off, ha, hB, Nat.lt_of_lt_of_le hg hb.size, fun i s hi => by rw [c, c]; exact hc i s hi⟩
theorem SL.but {B p : Nat} {w w' : World} {v : Value} {l : List Sp} (h : SL B w v l) (hb : But p w w') (hp : p < B) : SL B w' v l := by
  obtain ⟨h1, a, cap, h2, h3⟩ := h
  refine ⟨h1, a, cap, h2, fun hne => ?_⟩
  obtain ⟨g, off, ha, hB, hg, hc⟩ := h3 hne
  have c : ∀ o, w'.cell? ⟨g, o, none⟩ = w.cell? ⟨g, o, none⟩ := fun o => hb.cell (q := ⟨g, o, none⟩) hg (by show g ≠ p; omega)
  exact ⟨g, off, ha, hB, Nat.lt_of_lt_of_le hg hb.size, fun i s hi => by rw [c, c]; exact hc i s hi⟩

set_option maxHeartbeats 2000000 in
theorem allMayBe_any {B : Nat} {l : List Sp} {v : Value} (k : Int) (w : World) (h : SL B w v l) :
    Calls Tryz.prog 149 #[v, .int .i64 k] w fun e w' => e = .returned (.bool (allB l k)) ∧ Below w.heap.size w w' := by
  obtain ⟨hlen, a, cap, rfl, hk⟩ := h
  have HK := hide hk
  clear hk
  go_enter Tryz.func149, Tryz.ntmps149
  go_wp2
  go_loopw [9] (fun i wr => ∃ m : Nat, m ≤ l.length ∧ i = .int .i64 (m : Int) ∧ Hid (allB l k = allB (l.drop m) k) ∧ Hid (Below w.heap.size w wr)) (fun i _ => l.length - (intOf i).toNat)
  case atStart => exact ⟨0, Nat.zero_le _, rfl, hide rfl, hide (Below.refl _ _)⟩
  case round =>
    obtain ⟨m, hml, rfl, H, HB⟩ := hrel
    by_cases hlt : m < l.length
    · have hi1 : (m : Int) < (l.length : Int) := by omega
      obtain ⟨u, hu⟩ : ∃ u, l[m]? = some u := ⟨_, List.getElem?_eq_getElem hlt⟩
      rw [drop_at hu] at H
      obtain ⟨g, off, rfl, hB, hg, hc⟩ := unhide HK (by intro e; subst e; simp at hlt)
      have c0 := ((unhide HB).cell (p := ⟨g, off + m * 2, none⟩) hg).trans (hc m u hu).1
      have c1 := ((unhide HB).cell (p := ⟨g, off + m * 2 + 1, none⟩) hg).trans (hc m u hu).2
      have MB := hide (fun wx => mayBe_any u k wx)
      have E : Hid (allB l k = (u.mayB k && allB (l.drop (m + 1)) k)) := hide ((unhide H).trans (by simp [allB]))
      generalize u.mayB k = q at *
      clear hc hu HK H
      go_wp2_with fail
      refine (unhide MB _).mono ?_
      rintro e w2 ⟨rfl, hb2⟩
      have HB2 := hide (below_via (below_via (unhide HB) ((Below.refl _ _).alloc (Nat.le_refl _) _)) hb2)
      clear hb2 MB c0 c1 HB
      cases q
      · go_wp2
        go_ret
        exact ⟨by rw [unhide E]; rfl, unhide HB2⟩
      · go_wp2
        go_roundw
        case rel => exact ⟨m + 1, by omega, by go_num, hide ((unhide E).trans (by simp)), HB2⟩
        case measure => simp [intOf]; omega
    · obtain rfl : m = l.length := by omega
      have E : Hid (allB l k = true) := hide ((unhide H).trans (by rw [List.drop_length]; rfl))
      clear H HK
      go_wp2
      go_ret
      exact ⟨by rw [unhide E]; rfl, unhide HB⟩

set_option maxHeartbeats 1000000 in
theorem inOrder_any {B : Nat} {l : List Sp} {v : Value} (w : World) (h : SL B w v l) :
    Calls Tryz.prog 151 #[v] w fun e w' => e = .returned (.bool (ordB l)) ∧ Below w.heap.size w w' := by
  have A3 := hide (allMayBe_any 3 w h)
  have A4 := hide (fun wx (hb : Below w.heap.size w wx) => allMayBe_any 4 wx (h.keep hb))
  obtain ⟨_, a, cap, rfl, _⟩ := h
  unfold ordB
  generalize allB l 3 = p at *
  generalize allB l 4 = q at *
  go_enter Tryz.func151, Tryz.ntmps151
  go_wp2_with fail
  refine (unhide A3).mono ?_
  rintro e w1 ⟨rfl, hb⟩
  have HB := hide hb
  clear hb
  cases p
  · go_wp2_with fail
    refine (unhide A4 _ (unhide HB)).mono ?_
    rintro e w2 ⟨rfl, hb2⟩
    have HB2 := hide (below_via (unhide HB) hb2)
    clear hb2
    go_wp2
    go_ret
    exact ⟨by simp, unhide HB2⟩
  · go_wp2
    go_ret
    exact ⟨by simp, unhide HB⟩

theorem joinL_step {a : Sp} {l : List Sp} {m : Nat} {u : Sp} (hu : l[m]? = some u) : joinA a (l.drop m) = joinA (a.join u) (l.drop (m + 1)) := by rw [drop_at hu]; rfl

set_option maxHeartbeats 4000000 in
theorem joined_any {B : Nat} {l : List Sp} {v : Value} (w : World) (h : SL B w v l) (hn : ∀ a ∈ l, a.n ≤ 100000) :
    Calls Tryz.prog 153 #[v] w fun e w' => e = .returned (sh (joinL l)) ∧ Below w.heap.size w w' := by
  obtain ⟨hlen, a, cap, rfl, hk⟩ := h
  have HK := hide hk
  have HN := hide hn
  clear hk hn
  have P1 := hide (fun wx => plain_any 1 wx)
  go_enter Tryz.func153, Tryz.ntmps153
  go_wp2_with fail
  refine (unhide P1 _).mono ?_
  rintro e w1 ⟨rfl, hb⟩
  have X2 := ((Bx2.new w 158 (.int .i64 0) (.int .i64 0)).keep hb (by simp)).keep ((Below.refl _ _).alloc (Nat.le_refl _) (.cells #[.int .i64 0, .int .i64 1] 158)) (Nat.lt_of_lt_of_le (by simp) hb.size)
  have X3 := Bx2.new w1 158 (.int .i64 0) (.int .i64 1)
  have B1 := hide (below_via (below_via ((Below.refl _ _).alloc (Nat.le_refl _) _) hb) ((Below.refl w1.heap.size w1).alloc (Nat.le_refl _) (.cells #[.int .i64 0, .int .i64 1] 158)))
  have hz : w.heap.size < w1.heap.size := Nat.lt_of_lt_of_le (by simp) hb.size
  have Y2 := hide X2
  have Y3 := hide X3
  clear hb X2 X3 P1
  go_wp2
  go_loopw [9] (fun i wr => ∃ (m : Nat) (s : Sp), m ≤ l.length ∧ i = .int .i64 (m : Int) ∧ Hid (joinL l = joinA s (l.drop m)) ∧ Hid (s.n ≤ 100000) ∧ Hid (Bx2 wr w.heap.size (.int .i64 0) (.int .i64 0)) ∧ Hid (Bx2 wr w1.heap.size (.int .i64 (s.n : Int)) (.int .i64 s.k)) ∧ Hid (Below w.heap.size w wr)) (fun i _ => l.length - (intOf i).toNat)
  case atStart => exact ⟨0, ⟨0, 1⟩, Nat.zero_le _, rfl, hide rfl, hide (by decide), Y2, Y3, B1⟩
  case round =>
    obtain ⟨m, s, hml, rfl, H, HS, Z2, Z3, HB⟩ := hrel
    clear Y2 Y3 B1
    by_cases hlt : m < l.length
    · have hi1 : (m : Int) < (l.length : Int) := by omega
      obtain ⟨u, hu⟩ : ∃ u, l[m]? = some u := ⟨_, List.getElem?_eq_getElem hlt⟩
      have E := hide ((unhide H).trans (joinL_step hu))
      obtain ⟨g, off, rfl, hB, hg, hc⟩ := unhide HK (by intro e; subst e; simp at hlt)
      have c0 := ((unhide HB).cell (p := ⟨g, off + m * 2, none⟩) hg).trans (hc m u hu).1
      have c1 := ((unhide HB).cell (p := ⟨g, off + m * 2 + 1, none⟩) hg).trans (hc m u hu).2
      have hun := unhide HN u (List.mem_of_getElem? hu)
      have MB := hide (fun wx => join_any s u wx (unhide HS) hun)
      have HS2 := hide (join_bd (unhide HS) hun)
      have d0 := (unhide Z3).at0
      have d1 := (unhide Z3).at1
      have hcw := (unhide Z3).low
      generalize s.join u = q at *
      clear hc hu HK H hun HN
      go_wp2_with fail
      refine (unhide MB _).mono ?_
      rintro e w2 ⟨rfl, hb2⟩
      have HA : Below wr.heap.size wr w2 := below_via ((Below.refl _ _).alloc (Nat.le_refl _) _) hb2
      have HB2 := hide (below_via (unhide HB) HA)
      have Z2' := hide ((unhide Z2).keep HA (unhide Z2).low)
      have Z3' := (unhide Z3).keep HA (unhide Z3).low
      have Z4 := hide (Z3'.put (.int .i64 (q.n : Int)) (.int .i64 q.k))
      have Z5 := hide (((unhide Z2').other (by omega : w.heap.size ≠ w1.heap.size) 0 (.int .i64 (q.n : Int))).other (by omega : w.heap.size ≠ w1.heap.size) 1 (.int .i64 q.k))
      have HB3 := hide (((unhide HB2).setCell (p := ⟨w1.heap.size, 0, none⟩) (by show w.heap.size ≤ w1.heap.size; omega) (.int .i64 (q.n : Int))).setCell (p := ⟨w1.heap.size, 1, none⟩) (by show w.heap.size ≤ w1.heap.size; omega) (.int .i64 q.k))
      have f0 := Z3'.at0
      have f1 := Z3'.at1
      have t0 := Z3'.th0
      have t1 := Z3'.th1
      have lc := Z3'.low
      clear hb2 MB c0 c1 HB HA Z2 Z3 Z3' d0 d1 Z2' HB2
      go_wp2
      go_roundw
      case rel => exact ⟨m + 1, q, by omega, by go_num, E, HS2, Z5, Z4, HB3⟩
      case measure => simp [intOf]; omega
    · obtain rfl : m = l.length := by omega
      have E : Hid (joinL l = s) := hide ((unhide H).trans (by rw [List.drop_length]; rfl))
      have R := (unhide Z2).put (.int .i64 (s.n : Int)) (.int .i64 s.k)
      have r0 := hide R.at0
      have r1 := hide R.at1
      have d0 := (unhide Z3).at0
      have d1 := (unhide Z3).at1
      have e0 := (unhide Z2).at0
      have e1 := (unhide Z2).at1
      have t0 := (unhide Z2).th0
      have t1 := (unhide Z2).th1
      have l0 := (unhide Z2).low
      have l1 := (unhide Z3).low
      clear H HK HN R Z2 Z3 HS
      go_wp2
      refine bodyPost_ret (v := sh (joinL l)) ?_ rfl ⟨rfl, ?_⟩
      · rw [unhide E]
        simp [results, Tryz.results153, go_sem, unhide r0, unhide r1]
      · exact ((unhide HB).setCell (by simp) _).setCell (by simp) _
end Go.Proofs.YtnegjbkbfgkkjaaGreatDoor

/- Walks: what functions tell. (Written by gen_ye.py.) -/
namespace Go.Proofs.YtnegjbkbfgkkjaaGreatDoor
open Go.RowKit

theorem SL.at {B : Nat} {w : World} {v : Value} {l : List Sp} (h : SL B w v l) {i : Nat} {s : Sp} (hi : l[i]? = some s) : ∃ g off cap, v = .slice (some ⟨g, off, none⟩) l.length cap ∧ g < w.heap.size ∧ (i : Int) < (l.length : Int) ∧ w.cell? ⟨g, off + i * 2, none⟩ = some (.int .i64 (s.n : Int)) ∧ w.cell? ⟨g, off + i * 2 + 1, none⟩ = some (.int .i64 s.k) := by
  obtain ⟨h1, a, cap, rfl, h3⟩ := h
  have hlt := (List.getElem?_eq_some_iff.1 hi).1
  obtain ⟨g, off, rfl, _, hg, hc⟩ := h3 (by intro e; subst e; simp at hlt)
  exact ⟨g, off, cap, rfl, hg, by omega, (hc i s hi).1, (hc i s hi).2⟩

set_option maxHeartbeats 4000000 in
theorem ofSum_any {B : Nat} {l : List Sp} {v : Value} {s : Sp} (w : World) (h : SL B w v l) (h0 : l[0]? = some s) (hs : s.n ≤ 100000) :
    Calls Tryz.prog 140 #[v] w fun e w' => e = .returned (.tuple #[shn 0 3, .bool (s.elem.mayB 3)]) ∧ Below w.heap.size w w' := by
  obtain ⟨g, off, cap, rfl, hg, hl, c0, c1⟩ := h.at h0
  clear h h0
  have EL := hide (fun wx => elem_any s wx hs)
  have MB := hide (fun wx => mayBe_any s.elem 3 wx)
  generalize s.elem = s' at *
  generalize s'.mayB 3 = q at *
  simp only [Nat.zero_mul, Nat.add_zero] at c0 c1
  generalize l.length = n at *
  go_enter Tryz.func140, Tryz.ntmps140
  go_wp2_with fail
  have X0 := Bx2.new w 158 (.int .i64 0) (.int .i64 0)
  have B0 := (Below.refl w.heap.size w).alloc (Nat.le_refl _) (.cells #[.int .i64 0, .int .i64 0] 158)
  have c00 := (B0.cell (p := ⟨g, off, none⟩) hg).trans c0
  have hg0 := Nat.lt_of_lt_of_le hg B0.size
  have c10 := (B0.cell (p := ⟨g, off + 1, none⟩) hg).trans c1
  generalize w.alloc (.cells #[.int .i64 0, .int .i64 0] 158) = w0 at *
  have KP : Hid (∀ wx, Below w0.heap.size w0 wx → wx.cell? ⟨g, off, none⟩ = some (.int .i64 (s.n : Int)) ∧ wx.cell? ⟨g, off + 1, none⟩ = some (.int .i64 s.k) ∧ wx.cell? ⟨w.heap.size, 0, none⟩ = some (.int .i64 0) ∧ wx.cell? ⟨w.heap.size, 1, none⟩ = some (.int .i64 0) ∧ wx.frozen? ⟨w.heap.size, 0, none⟩ = false ∧ wx.frozen? ⟨w.heap.size, 1, none⟩ = false ∧ w.heap.size < wx.heap.size) := hide (fun wx hb => ⟨(hb.cell (p := ⟨g, off, none⟩) hg0).trans c00, (hb.cell (p := ⟨g, off + 1, none⟩) hg0).trans c10, (X0.keep hb X0.low).at0, (X0.keep hb X0.low).at1, (X0.keep hb X0.low).th0, (X0.keep hb X0.low).th1, (X0.keep hb X0.low).low⟩)
  have HB := hide B0
  obtain ⟨c0, c1, x0, x1, t0, t1, lx⟩ := unhide KP w0 (Below.refl _ _)
  clear c00 c10 X0 B0 hg hg0
  go_region_with (first
    | (go_at_call 143; refine (plain_any _ _).mono ?_; rintro e w1 ⟨rfl, hb⟩; replace hb : Below w0.heap.size w0 w1 := below_via (by repeat (first | assumption | exact Below.refl _ _ | apply Below.drew)) hb; obtain ⟨c0, c1, x0, x1, t0, t1, lx⟩ := unhide KP _ hb)
    | (go_at_call 135; refine (unhide EL _).mono ?_; rintro e w1 ⟨rfl, hb⟩; replace hb : Below w0.heap.size w0 w1 := below_via (by repeat (first | assumption | exact Below.refl _ _ | apply Below.drew)) hb; obtain ⟨c0, c1, x0, x1, t0, t1, lx⟩ := unhide KP _ hb)
    | (go_at_call 145; refine (unhide MB _).mono ?_; rintro e w1 ⟨rfl, hb⟩; replace hb : Below w0.heap.size w0 w1 := below_via (by repeat (first | assumption | exact Below.refl _ _ | apply Below.drew)) hb; obtain ⟨c0, c1, x0, x1, t0, t1, lx⟩ := unhide KP _ hb))
  all_goals
    have HW := hide (below_via (unhide HB) hb)
    clear hb
    go_wp2
    refine bodyPost_ret (v := .tuple #[shn 0 3, .bool q]) (by simp [results, Tryz.results140, go_sem, x0, x1]) rfl ⟨rfl, ?_⟩
    repeat (first | exact unhide HW | apply Below.drew | refine Below.setCell ?_ (by simp) _)

set_option maxHeartbeats 1000000 in
theorem ofBetween_any {B : Nat} {l : List Sp} {v : Value} (w : World) (h : SL B w v l) :
    Calls Tryz.prog 142 #[v] w fun e w' => e = .returned (.tuple #[shn 0 2, .bool (ordB l)]) ∧ Below w.heap.size w w' := by
  have IO := hide (fun wx (hb : Below w.heap.size w wx) => inOrder_any wx (h.keep hb))
  obtain ⟨_, a, cap, rfl, _⟩ := h
  generalize ordB l = q at *
  generalize l.length = n at *
  go_enter Tryz.func142, Tryz.ntmps142
  go_wp2_with fail
  refine (plain_any _ _).mono ?_
  rintro e w1 ⟨rfl, hb⟩
  have X1 := (Bx2.new w 158 (.int .i64 0) (.int .i64 0)).keep hb (by simp)
  have HB := hide (below_via ((Below.refl _ _).alloc (Nat.le_refl _) _) hb)
  have HX := hide X1
  clear hb X1
  go_wp2_with fail
  refine (unhide IO _ (unhide HB)).mono ?_
  rintro e w2 ⟨rfl, hb⟩
  have X2 := (unhide HX).keep hb (unhide HX).low
  have HW := hide (below_via (unhide HB) hb)
  have x0 := X2.at0
  have x1 := X2.at1
  have t0 := X2.th0
  have t1 := X2.th1
  have lx := X2.low
  clear hb X2 HX HB
  go_wp2
  refine bodyPost_ret (v := .tuple #[shn 0 2, .bool q]) (by simp [results, Tryz.results142, go_sem, x0, x1]) rfl ⟨rfl, ?_⟩
  exact ((unhide HW).setCell (by simp) _).setCell (by simp) _

set_option maxHeartbeats 1000000 in
theorem elemOfFirst_any {B : Nat} {l : List Sp} {v : Value} {s : Sp} (w : World) (h : SL B w v l) (h0 : l[0]? = some s) (hs : s.n ≤ 100000) :
    Calls Tryz.prog 139 #[v] w fun e w' => e = .returned (.tuple #[sh s.elem, .bool true]) ∧ Below w.heap.size w w' := by
  obtain ⟨g, off, cap, rfl, hg, hl, c0, c1⟩ := h.at h0
  clear h h0
  have EL := hide (fun wx => elem_any s wx hs)
  generalize s.elem = s' at *
  simp only [Nat.zero_mul, Nat.add_zero] at c0 c1
  generalize l.length = n at *
  go_enter Tryz.func139, Tryz.ntmps139
  go_wp2_with fail
  refine (unhide EL _).mono ?_
  rintro e w1 ⟨rfl, hb⟩
  have X2 := (Bx2.new w 158 (.int .i64 0) (.int .i64 0)).keep hb (by simp)
  have HW := hide (below_via ((Below.refl _ _).alloc (Nat.le_refl _) _) hb)
  have x0 := X2.at0
  have x1 := X2.at1
  have t0 := X2.th0
  have t1 := X2.th1
  have lx := X2.low
  clear hb X2 EL
  go_wp2
  refine bodyPost_ret (v := .tuple #[sh s', .bool true]) (by simp [results, Tryz.results139, go_sem, x0, x1]) rfl ⟨rfl, ?_⟩
  exact ((unhide HW).setCell (by simp) _).setCell (by simp) _

set_option maxHeartbeats 1000000 in
theorem always1_any (k : Int) (v : Value) (c : Nat) (w : World) (hc : w.cell? ⟨c, 0, none⟩ = some (.int .i64 k)) (lc : c < w.heap.size) :
    Calls Tryz.prog 165 #[v, .pointer (some ⟨c, 0, none⟩)] w fun e w' => e = .returned (.tuple #[shn 0 k, .bool true]) ∧ Below w.heap.size w w' := by
  go_enter Tryz.func165, Tryz.ntmps165
  go_wp2_with fail
  refine (plain_any _ _).mono ?_
  rintro e w1 ⟨rfl, hb⟩
  have X2 := (Bx2.new w 158 (.int .i64 0) (.int .i64 0)).keep hb (by simp)
  have HW := hide (below_via ((Below.refl _ _).alloc (Nat.le_refl _) _) hb)
  have x0 := X2.at0
  have x1 := X2.at1
  have t0 := X2.th0
  have t1 := X2.th1
  have lx := X2.low
  clear hb X2
  go_wp2
  refine bodyPost_ret (v := .tuple #[shn 0 k, .bool true]) (by simp [results, Tryz.results165, go_sem, x0, x1]) rfl ⟨rfl, ?_⟩
  exact ((unhide HW).setCell (by simp) _).setCell (by simp) _
end Go.Proofs.YtnegjbkbfgkkjaaGreatDoor

/- Walks: lists of shapes that are made; listOfElems. -/
namespace Go.Proofs.YtnegjbkbfgkkjaaGreatDoor
open Go.RowKit

def shC (a : Sp) : List Value := [.int .i64 (a.n : Int), .int .i64 a.k]
def shCs (l : List Sp) : List Value := l.flatMap shC
/-- shapes in memory that a slice owns, from block B on -/
def SM (B : Nat) (w : World) (v : Value) (l : List Sp) : Prop := w.ownsRow B 158 2 v l.length (shCs l)
theorem info_shp : (Tryz.prog.info? 158).map (fun i => (i.zero, i.size, i.bytes)) = some (some (.agg #[.int .i64 0, .int .i64 0]), 2, 16) := by kernel_rfl
theorem shCs_app (l : List Sp) (a : Sp) : shCs (l ++ [a]) = shCs l ++ shC a := by simp [shCs]
theorem shCs_at : ∀ (l : List Sp) (i : Nat) (t : Sp), l[i]? = some t → ∀ j v, (shC t)[j]? = some v → (shCs l)[i * 2 + j]? = some v
  | [], i, t, h, _, _, _ => by simp at h
  | a :: l, 0, t, h, j, v, hv => by
    simp only [List.getElem?_cons_zero, Option.some.injEq] at h
    subst h
    have hj : j < (shC a).length := (List.getElem?_eq_some_iff.1 hv).1
    rw [show shCs (a :: l) = shC a ++ shCs l by simp [shCs], List.getElem?_append_left (by omega)]
    simpa using hv
  | a :: l, i + 1, t, h, j, v, hv => by
    rw [show shCs (a :: l) = shC a ++ shCs l by simp [shCs], List.getElem?_append_right (by show 2 ≤ _; omega)]
    rw [show (i + 1) * 2 + j - (shC a).length = i * 2 + j by show (i + 1) * 2 + j - 2 = _; omega]
    exact shCs_at l i t (by simpa using h) j v hv
theorem blk_lt {w : World} {g : Nat} {o : Obj} (hh : w.heap[g]? = some o) : g < w.heap.size := (Array.getElem?_eq_some_iff.1 hh).1
theorem SM.read {B : Nat} {w : World} {v : Value} {l : List Sp} (h : SM B w v l) (hl : l.length ≤ 1000000) : SL B w v l := by
  refine ⟨hl, ?_⟩
  rcases h.2 with ⟨h1, h0⟩ | ⟨g, cap, cur, hv, hg, hh, h1, h2, h3, h4⟩
  · refine ⟨none, 0, by rw [h1, h0], fun hne => absurd (List.length_eq_zero_iff.1 h0) hne⟩
  · refine ⟨_, cap, hv, fun _ => ⟨g, 0, rfl, hg, blk_lt hh, fun i s hi => ?_⟩⟩
    have q : ∀ j u, (shC s)[j]? = some u → w.cell? ⟨g, i * 2 + j, none⟩ = some u := by
      intro j u hu
      have hx := shCs_at l i s hi j u hu
      rw [← h4, List.getElem?_take] at hx
      split at hx
      · simp [World.cell?, hh]
        simpa using hx
      · cases hx
    exact ⟨by rw [Nat.zero_add]; exact q 0 _ rfl, by rw [Nat.zero_add]; exact q 1 _ rfl⟩
theorem SM.keep {B : Nat} {w w' : World} {v : Value} {l : List Sp} (h : SM B w v l) (hb : Below w.heap.size w w') : SM B w' v l := by
  obtain ⟨h1, h2⟩ := h
  refine ⟨h1, ?_⟩
  rcases h2 with h2 | ⟨g, cap, cur, hv, hg, hh, r⟩
  · exact .inl h2
  · exact .inr ⟨g, cap, cur, hv, hg, (hb.block g (blk_lt hh)).trans hh, r⟩
theorem SM.but {B p : Nat} {w w' : World} {v : Value} {l : List Sp} (h : SM B w v l) (hb : But p w w') (hp : p < B) : SM B w' v l := by
  obtain ⟨h1, h2⟩ := h
  refine ⟨h1, ?_⟩
  rcases h2 with h2 | ⟨g, cap, cur, hv, hg, hh, r⟩
  · exact .inl h2
  · exact .inr ⟨g, cap, cur, hv, hg, (hb.block g (blk_lt hh) (by omega)).trans hh, r⟩
theorem SM.own {B : Nat} {w : World} {v : Value} {l : List Sp} (h : SM B w v l) : ∀ g, v.ownBlock = some g → B ≤ g := by
  intro g hg
  rcases h.2 with ⟨rfl, _⟩ | ⟨g', cap, cur, rfl, hB, _⟩
  · simp [Value.ownBlock] at hg
  · simp [Value.ownBlock] at hg; omega
theorem cell_two_new (W : World) (t : TypeId) (a b : Value) : ∀ j u, [a, b][j]? = some u → (W.alloc (.cells #[a, b] t)).cell? ((⟨W.heap.size, 0, none⟩ : Addr).add j) = some u := by
  intro j u h
  rw [Lib.add_plain]
  have hj : j < 2 := by
    rcases Nat.lt_or_ge j 2 with q | q
    · exact q
    · rw [List.getElem?_eq_none (by simpa using q)] at h; cases h
  rcases (by omega : j = 0 ∨ j = 1) with rfl | rfl <;> (simp at h; subst h; simp [go_sem])
/-- room for so many shapes -/
theorem make_sh (n : Nat) (hn : n ≤ 1000000) (w : World) (base : Nat) (hb : base ≤ w.heap.size) : ∃ w', (Instr.makeSlice 188 (.int .i64 0) (.int .i64 (n : Int))).run Tryz.prog w = .ok (.slice (some ⟨w.heap.size, 0, none⟩) 0 n) w' ∧ SM base w' (.slice (some ⟨w.heap.size, 0, none⟩) 0 n) [] ∧ Below w.heap.size w w' := by
  obtain ⟨i0, hi, hz0, hz1, hz2⟩ := info_parts info_shp
  obtain ⟨w', h1, h2, h3⟩ := run_make_own (P := Tryz.prog) w base 188 158 i0 _ 2 Tryz.underlying188 hi hz0 hz1 .i64 .i64 n (by rw [hz2]; omega) (by unfold maxLen; omega) hb
  exact ⟨w', h1, h2, (Below.refl _ w).grown h3 (Nat.le_refl _) (fun k hk => by cases hk)⟩

set_option maxHeartbeats 4000000 in
set_option maxRecDepth 100000 in
theorem listOfElems_any {B : Nat} {l : List Sp} {v : Value} (w : World) (h : SL B w v l) (hn : ∀ a ∈ l, a.n ≤ 99999) :
    Calls Tryz.prog 141 #[v] w fun e w' => e = .returned (.tuple #[sh (joinL (l.map Sp.elem)).listed, .bool true]) ∧ Below w.heap.size w w' := by
  have hmn : ∀ a ∈ l.map Sp.elem, a.n ≤ 99999 := fun b hb => by
    obtain ⟨a, ha, rfl⟩ := List.mem_map.1 hb
    exact Nat.le_trans (elem_bd a) (hn a ha)
  have hj : (joinL (l.map Sp.elem)).n ≤ 100000 := Nat.le_trans (joinA_bd (l.map Sp.elem) ⟨0, 1⟩ (Nat.zero_le 99999) hmn) (by omega)
  have LI := hide (fun wx => listed_any (joinL (l.map Sp.elem)) wx hj)
  have JN := hide (fun v wx (hs : SM (w.heap.size + 1) wx v (l.map Sp.elem)) => joined_any wx (hs.read (by rw [List.length_map]; exact h.len)) (fun a ha => Nat.le_trans (hmn a ha) (by omega)))
  have HN := hide hn
  obtain ⟨hlen, a, cap, rfl, hk⟩ := h
  have HK := hide hk
  clear hk hn hmn hj
  have X0 := Bx2.new w 158 (.int .i64 0) (.int .i64 0)
  have B0 := (Below.refl w.heap.size w).alloc (Nat.le_refl _) (.cells #[.int .i64 0, .int .i64 0] 158)
  obtain ⟨wm, hmk, hown, hbm⟩ := make_sh l.length hlen (w.alloc (.cells #[.int .i64 0, .int .i64 0] 158)) (w.heap.size + 1) (by simp)
  have HX := hide (X0.keep hbm X0.low)
  have HB := hide (below_via B0 hbm)
  have HS := hide hown
  simp only [World.size_alloc] at hmk HS
  clear X0 B0 hown hbm
  go_enter Tryz.func141, Tryz.ntmps141
  go_wp2
  go_loopw [4, 12] (fun sv i wr => ∃ m : Nat, m ≤ l.length ∧ i = .int .i64 (m : Int) ∧ Hid (SM (w.heap.size + 1) wr sv ((l.map Sp.elem).take m)) ∧ Hid (Bx2 wr w.heap.size (.int .i64 0) (.int .i64 0)) ∧ Hid (Below w.heap.size w wr)) (fun _ i _ => l.length - (intOf i).toNat)
  case atStart => exact ⟨0, Nat.zero_le _, rfl, HS, HX, HB⟩
  case round =>
    obtain ⟨m, hml, rfl, HS1, HX1, HB1⟩ := hrel
    clear HS HX HB hmk
    by_cases hlt : m < l.length
    · have hi1 : (m : Int) < (l.length : Int) := by omega
      obtain ⟨u, hu⟩ : ∃ u, l[m]? = some u := ⟨_, List.getElem?_eq_getElem hlt⟩
      have ET : Hid ((l.map Sp.elem).take (m + 1) = (l.map Sp.elem).take m ++ [u.elem]) := hide (by rw [List.take_add_one, List.getElem?_map, hu]; rfl)
      have EM : Hid (((l.map Sp.elem).take m).length = m) := hide (by rw [List.length_take, List.length_map]; omega)
      obtain ⟨g, off, rfl, hB, hg, hc⟩ := unhide HK (by intro e; subst e; simp at hlt)
      have c0 := ((unhide HB1).cell (p := ⟨g, off + m * 2, none⟩) hg).trans (hc m u hu).1
      have c1 := ((unhide HB1).cell (p := ⟨g, off + m * 2 + 1, none⟩) hg).trans (hc m u hu).2
      have EL := hide (fun wx => elem_any u wx (Nat.le_trans (unhide HN u (List.mem_of_getElem? hu)) (by omega)))
      generalize u.elem = u2 at *
      clear hc hu HK HN LI JN
      go_wp2_with fail
      refine (unhide EL _).mono ?_
      rintro e w2 ⟨rfl, hb2⟩
      have hb3 : Below wr.heap.size wr w2 := below_via ((Below.refl _ _).alloc (Nat.le_refl _) _) hb2
      have HS2 := hide ((unhide HS1).keep hb3)
      have HX2 := hide ((unhide HX1).keep hb3 (unhide HX1).low)
      have HB2 := hide (below_via (unhide HB1) hb3)
      have hz2 : w.heap.size + 1 ≤ w2.heap.size := (unhide HX2).low
      obtain ⟨i0, hi, hz0, hz1, hzb⟩ := info_parts info_shp
      have HI := hide (And.intro hi (And.intro hz0 (And.intro hz1 hzb)))
      clear hb2 hb3 c0 c1 HS1 HX1 HB1 EL hi hz0 hz1 hzb
      go_wp2_with (at_builtin; refine wpList_append_own _ rfl _ _ 188 rfl (w.heap.size + 1) 158 i0 (.agg #[.int .i64 0, .int .i64 0]) 2 16 Tryz.underlying188 (unhide HI).1 (unhide HI).2.1 (unhide HI).2.2.1 (unhide HI).2.2.2 rfl (by decide) _ _ _ rfl (World.ownsRow.alloc (unhide HS2) _) ⟨w2.heap.size, 0, none⟩ 1 1 (shC u2) rfl rfl ?c1 ?c2 ?c3 ?c4 ?c5 ?_)
      case c1 => exact cell_two_new w2 158 (.int .i64 (u2.n : Int)) (.int .i64 u2.k)
      case c2 => intro x hx; simp [shC] at hx; rcases hx with rfl | rfl <;> rfl
      case c3 => rw [unhide EM]; unfold maxLen; omega
      case c4 => rw [unhide EM]; omega
      case c5 => simp; omega
      intro v' w3 hown hgrow hnil
      have HS3 : Hid (SM (w.heap.size + 1) w3 v' ((l.map Sp.elem).take (m + 1))) := by
        refine hide ?_
        unfold SM
        rw [unhide ET, shCs_app, List.length_append, unhide EM]
        exact hown
      have HG : Below (w.heap.size + 1) w2 w3 := ((Below.refl (w.heap.size + 1) w2).alloc hz2 _).grown hgrow (by simp; omega) (fun k hk => (unhide HS2).own k hk)
      have HX3 := hide ((unhide HX2).keep HG (by omega))
      have HB3 := hide ((unhide HB2).trans (HG.mono (by omega)))
      clear hown hgrow hnil HG HS2 HX2 HB2 HI
      go_wp2
      go_roundw
      case rel => exact ⟨m + 1, by omega, by go_num, HS3, HX3, HB3⟩
      case measure => simp [intOf]; omega
    · obtain rfl : m = l.length := by omega
      rw [show (l.map Sp.elem).take l.length = l.map Sp.elem by rw [← List.length_map (f := Sp.elem), List.take_length]] at HS1
      have C1 := hide (unhide JN u4 wr (unhide HS1))
      obtain ⟨q, hq⟩ : ∃ q, (joinL (l.map Sp.elem)).listed = q := ⟨_, rfl⟩
      rw [hq] at LI
      have EQ := hide hq
      clear hq
      generalize joinL (l.map Sp.elem) = p at C1 LI
      clear HS1 HK HN JN
      go_wp2_with fail
      refine (unhide C1).mono ?_
      rintro e w1 ⟨rfl, hb1⟩
      have HX2 := hide ((unhide HX1).keep hb1 (unhide HX1).low)
      have HB2 := hide (below_via (unhide HB1) hb1)
      clear hb1 HX1 HB1 C1
      go_wp2_with fail
      refine (unhide LI _).mono ?_
      rintro e w2 ⟨rfl, hb⟩
      have X2 := (unhide HX2).keep hb (unhide HX2).low
      have HW := hide (below_via (unhide HB2) hb)
      have x0 := X2.at0
      have x1 := X2.at1
      have t0 := X2.th0
      have t1 := X2.th1
      have lx := X2.low
      clear hb X2 HX2 HB2 LI
      go_wp2
      refine bodyPost_ret (v := .tuple #[sh q, .bool true]) (by simp [results, Tryz.results141, go_sem, x0, x1]) rfl ⟨by rw [unhide EQ], ?_⟩
      exact ((unhide HW).setCell (by simp) _).setCell (by simp) _
end Go.Proofs.YtnegjbkbfgkkjaaGreatDoor

/- Walks: a function asked. (Written by gen_ye.py.) -/
namespace Go.Proofs.YtnegjbkbfgkkjaaGreatDoor
open Go.RowKit

/-- what a function takes, in memory -/
def TkV (lo : Nat) (w : World) (tk : List Int) (b : Nat) : Prop := lo ≤ b ∧ b < w.heap.size ∧ ∀ i k, tk[i]? = some k → w.cell? ⟨b, i, none⟩ = some (.int .i64 k)
theorem goes_step {tk : List Int} {l : List Sp} {m : Nat} {k : Int} {a : Sp} (hk : tk[m]? = some k) (ha : l[m]? = some a) : goesB (tk.drop m) (l.drop m) = ((k == 0 || a.mayB k) && goesB (tk.drop (m + 1)) (l.drop (m + 1))) := by rw [drop_at hk, drop_at ha]; rfl
def ofR (g : Bool) (r : Sp × Bool) : Sp × Bool := if g then r else (⟨0, 0⟩, false)

set_option maxHeartbeats 8000000 in
theorem of_always {B : Nat} {l : List Sp} {kv : Value} (c : Nat) (tk : List Int) (bt cap : Nat) (w : World) (hT : TkV 0 w tk bt) (h : SL B w kv l) (hl : tk.length = l.length) (r : Sp × Bool)
    (TC : ∀ wx, Below w.heap.size w wx → Calls Tryz.prog 165 #[kv, .pointer (some ⟨c, 0, none⟩)] wx fun e w' => e = .returned (.tuple #[sh r.1, .bool r.2]) ∧ Below wx.heap.size wx w') :
    Calls Tryz.prog 144 #[.agg #[.slice (some ⟨bt, 0, none⟩) tk.length cap, .func (.func 165) #[] #[.pointer (some ⟨c, 0, none⟩)]], kv] w fun e w' => e = .returned (.tuple #[sh (ofR (goesB tk l) r).1, .bool (ofR (goesB tk l) r).2]) ∧ Below w.heap.size w w' := by
  obtain ⟨r1, r2⟩ := r
  simp only at TC
  obtain ⟨hlen, a, kcap, rfl, hk⟩ := h
  have HK := hide hk
  have HT := hide hT
  have HC := hide TC
  have X0 := (Bx2.new w 232 (.slice (some ⟨bt, 0, none⟩) tk.length cap) (.func (.func 165) #[] #[.pointer (some ⟨c, 0, none⟩)])).keep ((Below.refl _ _).alloc (Nat.le_refl _) (.cells #[.int .i64 0, .int .i64 0] 158)) (by simp)
  have Y0 := Bx2.new (w.alloc (.cells #[.slice (some ⟨bt, 0, none⟩) tk.length cap, .func (.func 165) #[] #[.pointer (some ⟨c, 0, none⟩)]] 232)) 158 (.int .i64 0) (.int .i64 0)
  rw [World.size_alloc] at Y0
  have B0 := below2 w (.cells #[.slice (some ⟨bt, 0, none⟩) tk.length cap, .func (.func 165) #[] #[.pointer (some ⟨c, 0, none⟩)]] 232) (.cells #[.int .i64 0, .int .i64 0] 158)
  have HX := hide X0
  have HY := hide Y0
  have HB := hide B0
  have hlt63 : tk.length ≤ 1000000 := by omega
  have HL := hide hl
  clear X0 Y0 B0 hk hT TC hl
  go_enter Tryz.func144, Tryz.ntmps144
  go_wp2
  go_loopw [11] (fun i wr => ∃ m : Nat, m ≤ tk.length ∧ i = .int .i64 (m : Int) ∧ Hid (goesB tk l = goesB (tk.drop m) (l.drop m)) ∧ Hid (Bx2 wr w.heap.size (.slice (some ⟨bt, 0, none⟩) tk.length cap) (.func (.func 165) #[] #[.pointer (some ⟨c, 0, none⟩)])) ∧ Hid (Bx2 wr (w.heap.size + 1) (.int .i64 0) (.int .i64 0)) ∧ Hid (Below w.heap.size w wr)) (fun i _ => tk.length - (intOf i).toNat)
  case atStart => exact ⟨0, Nat.zero_le _, rfl, hide rfl, HX, HY, HB⟩
  case round =>
    obtain ⟨m, hml, rfl, H, HX1, HY1, HB1⟩ := hrel
    clear HX HY HB
    by_cases hlt : m < tk.length
    · have hi1 : (m : Int) < (tk.length : Int) := by omega
      have hi2 : (m : Int) < (l.length : Int) := by have := unhide HL; omega
      have hlt2 : m < l.length := by omega
      obtain ⟨k, hku⟩ : ∃ k, tk[m]? = some k := ⟨_, List.getElem?_eq_getElem hlt⟩
      obtain ⟨u, hu⟩ : ∃ u, l[m]? = some u := ⟨_, List.getElem?_eq_getElem hlt2⟩
      have E := hide ((unhide H).trans (goes_step hku hu))
      obtain ⟨g, off, rfl, hB, hg, hc⟩ := unhide HK (by intro e; subst e; simp at hlt2)
      have c0 := ((unhide HB1).cell (p := ⟨g, off + m * 2, none⟩) hg).trans (hc m u hu).1
      have c1 := ((unhide HB1).cell (p := ⟨g, off + m * 2 + 1, none⟩) hg).trans (hc m u hu).2
      have d0 := ((unhide HB1).cell (p := ⟨bt, m, none⟩) (unhide HT).2.1).trans ((unhide HT).2.2 m k hku)
      have MB := hide (fun wx => mayBe_any u k wx)
      have HF : Hid (goesB tk l = false → ofR (goesB tk l) (r1, r2) = (⟨0, 0⟩, false)) := hide (fun q => by rw [q]; rfl)
      generalize u.mayB k = q at *
      clear hc hu hku HK H HC
      by_cases hk0 : k = 0
      · subst hk0
        clear MB
        go_wp2
        go_roundw
        case rel => exact ⟨m + 1, by omega, by go_num, hide ((unhide E).trans (by simp)), HX1, HY1, HB1⟩
        case measure => simp [intOf]; omega
      · have hk1 : (k != 0) = true := by simpa using hk0
        have hk2 : (k == 0) = false := by simpa using hk0
        rw [hk2] at E
        go_wp2_with fail
        refine (unhide MB _).mono ?_
        rintro e w2 ⟨rfl, hb2⟩
        have HX2 := hide ((unhide HX1).keep hb2 (unhide HX1).low)
        have HY2 := hide ((unhide HY1).keep hb2 (unhide HY1).low)
        have HB2 := hide (below_via (unhide HB1) hb2)
        clear hb2 MB c0 c1 d0 HX1 HY1 HB1 hk2 hk0
        cases q
        · have EF := hide (unhide HF ((unhide E).trans (by simp)))
          have x0 := (unhide HY2).at0
          have x1 := (unhide HY2).at1
          have t0 := (unhide HY2).th0
          have t1 := (unhide HY2).th1
          have lx := (unhide HY2).low
          clear HX2 HY2 HF E
          go_wp2
          refine bodyPost_ret (v := .tuple #[shn 0 0, .bool false]) (by simp [results, Tryz.results144, go_sem, x0, x1]) rfl ⟨by rw [unhide EF]; rfl, ?_⟩
          exact ((unhide HB2).setCell (by simp) _).setCell (by simp) _
        · go_wp2
          go_roundw
          case rel => exact ⟨m + 1, by omega, by go_num, hide ((unhide E).trans (by simp)), HX2, HY2, HB2⟩
          case measure => simp [intOf]; omega
    · obtain rfl : m = tk.length := by omega
      have E : Hid (ofR (goesB tk l) (r1, r2) = (r1, r2)) := hide (by rw [unhide H, List.drop_length]; simp [goesB, ofR])
      have C1 := hide (unhide HC _ (unhide HB1))
      have y0 := (unhide HX1).at0
      have y1 := (unhide HX1).at1
      clear H HK HC HT
      go_wp2_with fail
      refine (unhide C1).mono ?_
      rintro e w2 ⟨rfl, hb2⟩
      have Y2 := (unhide HY1).keep hb2 (unhide HY1).low
      have HB2 := hide (below_via (unhide HB1) hb2)
      have x0 := Y2.at0
      have x1 := Y2.at1
      have t0 := Y2.th0
      have t1 := Y2.th1
      have lx := Y2.low
      clear hb2 Y2 HX1 HY1 HB1 C1 y0 y1
      go_wp2
      refine bodyPost_ret (v := .tuple #[sh r1, .bool r2]) (by simp [results, Tryz.results144, go_sem, x0, x1]) rfl ⟨by rw [unhide E], ?_⟩
      exact ((unhide HB2).setCell (by simp) _).setCell (by simp) _

set_option maxHeartbeats 8000000 in
theorem of_elem {B : Nat} {l : List Sp} {kv : Value} (tk : List Int) (bt cap : Nat) (w : World) (hT : TkV 0 w tk bt) (h : SL B w kv l) (hl : tk.length = l.length) (r : Sp × Bool)
    (TC : ∀ wx, Below w.heap.size w wx → Calls Tryz.prog 139 #[kv] wx fun e w' => e = .returned (.tuple #[sh r.1, .bool r.2]) ∧ Below wx.heap.size wx w') :
    Calls Tryz.prog 144 #[.agg #[.slice (some ⟨bt, 0, none⟩) tk.length cap, .func (.func 139) #[] #[]], kv] w fun e w' => e = .returned (.tuple #[sh (ofR (goesB tk l) r).1, .bool (ofR (goesB tk l) r).2]) ∧ Below w.heap.size w w' := by
  obtain ⟨r1, r2⟩ := r
  simp only at TC
  obtain ⟨hlen, a, kcap, rfl, hk⟩ := h
  have HK := hide hk
  have HT := hide hT
  have HC := hide TC
  have X0 := (Bx2.new w 232 (.slice (some ⟨bt, 0, none⟩) tk.length cap) (.func (.func 139) #[] #[])).keep ((Below.refl _ _).alloc (Nat.le_refl _) (.cells #[.int .i64 0, .int .i64 0] 158)) (by simp)
  have Y0 := Bx2.new (w.alloc (.cells #[.slice (some ⟨bt, 0, none⟩) tk.length cap, .func (.func 139) #[] #[]] 232)) 158 (.int .i64 0) (.int .i64 0)
  rw [World.size_alloc] at Y0
  have B0 := below2 w (.cells #[.slice (some ⟨bt, 0, none⟩) tk.length cap, .func (.func 139) #[] #[]] 232) (.cells #[.int .i64 0, .int .i64 0] 158)
  have HX := hide X0
  have HY := hide Y0
  have HB := hide B0
  have hlt63 : tk.length ≤ 1000000 := by omega
  have HL := hide hl
  clear X0 Y0 B0 hk hT TC hl
  go_enter Tryz.func144, Tryz.ntmps144
  go_wp2
  go_loopw [11] (fun i wr => ∃ m : Nat, m ≤ tk.length ∧ i = .int .i64 (m : Int) ∧ Hid (goesB tk l = goesB (tk.drop m) (l.drop m)) ∧ Hid (Bx2 wr w.heap.size (.slice (some ⟨bt, 0, none⟩) tk.length cap) (.func (.func 139) #[] #[])) ∧ Hid (Bx2 wr (w.heap.size + 1) (.int .i64 0) (.int .i64 0)) ∧ Hid (Below w.heap.size w wr)) (fun i _ => tk.length - (intOf i).toNat)
  case atStart => exact ⟨0, Nat.zero_le _, rfl, hide rfl, HX, HY, HB⟩
  case round =>
    obtain ⟨m, hml, rfl, H, HX1, HY1, HB1⟩ := hrel
    clear HX HY HB
    by_cases hlt : m < tk.length
    · have hi1 : (m : Int) < (tk.length : Int) := by omega
      have hi2 : (m : Int) < (l.length : Int) := by have := unhide HL; omega
      have hlt2 : m < l.length := by omega
      obtain ⟨k, hku⟩ : ∃ k, tk[m]? = some k := ⟨_, List.getElem?_eq_getElem hlt⟩
      obtain ⟨u, hu⟩ : ∃ u, l[m]? = some u := ⟨_, List.getElem?_eq_getElem hlt2⟩
      have E := hide ((unhide H).trans (goes_step hku hu))
      obtain ⟨g, off, rfl, hB, hg, hc⟩ := unhide HK (by intro e; subst e; simp at hlt2)
      have c0 := ((unhide HB1).cell (p := ⟨g, off + m * 2, none⟩) hg).trans (hc m u hu).1
      have c1 := ((unhide HB1).cell (p := ⟨g, off + m * 2 + 1, none⟩) hg).trans (hc m u hu).2
      have d0 := ((unhide HB1).cell (p := ⟨bt, m, none⟩) (unhide HT).2.1).trans ((unhide HT).2.2 m k hku)
      have MB := hide (fun wx => mayBe_any u k wx)
      have HF : Hid (goesB tk l = false → ofR (goesB tk l) (r1, r2) = (⟨0, 0⟩, false)) := hide (fun q => by rw [q]; rfl)
      generalize u.mayB k = q at *
      clear hc hu hku HK H HC
      by_cases hk0 : k = 0
      · subst hk0
        clear MB
        go_wp2
        go_roundw
        case rel => exact ⟨m + 1, by omega, by go_num, hide ((unhide E).trans (by simp)), HX1, HY1, HB1⟩
        case measure => simp [intOf]; omega
      · have hk1 : (k != 0) = true := by simpa using hk0
        have hk2 : (k == 0) = false := by simpa using hk0
        rw [hk2] at E
        go_wp2_with fail
        refine (unhide MB _).mono ?_
        rintro e w2 ⟨rfl, hb2⟩
        have HX2 := hide ((unhide HX1).keep hb2 (unhide HX1).low)
        have HY2 := hide ((unhide HY1).keep hb2 (unhide HY1).low)
        have HB2 := hide (below_via (unhide HB1) hb2)
        clear hb2 MB c0 c1 d0 HX1 HY1 HB1 hk2 hk0
        cases q
        · have EF := hide (unhide HF ((unhide E).trans (by simp)))
          have x0 := (unhide HY2).at0
          have x1 := (unhide HY2).at1
          have t0 := (unhide HY2).th0
          have t1 := (unhide HY2).th1
          have lx := (unhide HY2).low
          clear HX2 HY2 HF E
          go_wp2
          refine bodyPost_ret (v := .tuple #[shn 0 0, .bool false]) (by simp [results, Tryz.results144, go_sem, x0, x1]) rfl ⟨by rw [unhide EF]; rfl, ?_⟩
          exact ((unhide HB2).setCell (by simp) _).setCell (by simp) _
        · go_wp2
          go_roundw
          case rel => exact ⟨m + 1, by omega, by go_num, hide ((unhide E).trans (by simp)), HX2, HY2, HB2⟩
          case measure => simp [intOf]; omega
    · obtain rfl : m = tk.length := by omega
      have E : Hid (ofR (goesB tk l) (r1, r2) = (r1, r2)) := hide (by rw [unhide H, List.drop_length]; simp [goesB, ofR])
      have C1 := hide (unhide HC _ (unhide HB1))
      have y0 := (unhide HX1).at0
      have y1 := (unhide HX1).at1
      clear H HK HC HT
      go_wp2_with fail
      refine (unhide C1).mono ?_
      rintro e w2 ⟨rfl, hb2⟩
      have Y2 := (unhide HY1).keep hb2 (unhide HY1).low
      have HB2 := hide (below_via (unhide HB1) hb2)
      have x0 := Y2.at0
      have x1 := Y2.at1
      have t0 := Y2.th0
      have t1 := Y2.th1
      have lx := Y2.low
      clear hb2 Y2 HX1 HY1 HB1 C1 y0 y1
      go_wp2
      refine bodyPost_ret (v := .tuple #[sh r1, .bool r2]) (by simp [results, Tryz.results144, go_sem, x0, x1]) rfl ⟨by rw [unhide E], ?_⟩
      exact ((unhide HB2).setCell (by simp) _).setCell (by simp) _

set_option maxHeartbeats 8000000 in
theorem of_elems {B : Nat} {l : List Sp} {kv : Value} (tk : List Int) (bt cap : Nat) (w : World) (hT : TkV 0 w tk bt) (h : SL B w kv l) (hl : tk.length = l.length) (r : Sp × Bool)
    (TC : ∀ wx, Below w.heap.size w wx → Calls Tryz.prog 141 #[kv] wx fun e w' => e = .returned (.tuple #[sh r.1, .bool r.2]) ∧ Below wx.heap.size wx w') :
    Calls Tryz.prog 144 #[.agg #[.slice (some ⟨bt, 0, none⟩) tk.length cap, .func (.func 141) #[] #[]], kv] w fun e w' => e = .returned (.tuple #[sh (ofR (goesB tk l) r).1, .bool (ofR (goesB tk l) r).2]) ∧ Below w.heap.size w w' := by
  obtain ⟨r1, r2⟩ := r
  simp only at TC
  obtain ⟨hlen, a, kcap, rfl, hk⟩ := h
  have HK := hide hk
  have HT := hide hT
  have HC := hide TC
  have X0 := (Bx2.new w 232 (.slice (some ⟨bt, 0, none⟩) tk.length cap) (.func (.func 141) #[] #[])).keep ((Below.refl _ _).alloc (Nat.le_refl _) (.cells #[.int .i64 0, .int .i64 0] 158)) (by simp)
  have Y0 := Bx2.new (w.alloc (.cells #[.slice (some ⟨bt, 0, none⟩) tk.length cap, .func (.func 141) #[] #[]] 232)) 158 (.int .i64 0) (.int .i64 0)
  rw [World.size_alloc] at Y0
  have B0 := below2 w (.cells #[.slice (some ⟨bt, 0, none⟩) tk.length cap, .func (.func 141) #[] #[]] 232) (.cells #[.int .i64 0, .int .i64 0] 158)
  have HX := hide X0
  have HY := hide Y0
  have HB := hide B0
  have hlt63 : tk.length ≤ 1000000 := by omega
  have HL := hide hl
  clear X0 Y0 B0 hk hT TC hl
  go_enter Tryz.func144, Tryz.ntmps144
  go_wp2
  go_loopw [11] (fun i wr => ∃ m : Nat, m ≤ tk.length ∧ i = .int .i64 (m : Int) ∧ Hid (goesB tk l = goesB (tk.drop m) (l.drop m)) ∧ Hid (Bx2 wr w.heap.size (.slice (some ⟨bt, 0, none⟩) tk.length cap) (.func (.func 141) #[] #[])) ∧ Hid (Bx2 wr (w.heap.size + 1) (.int .i64 0) (.int .i64 0)) ∧ Hid (Below w.heap.size w wr)) (fun i _ => tk.length - (intOf i).toNat)
  case atStart => exact ⟨0, Nat.zero_le _, rfl, hide rfl, HX, HY, HB⟩
  case round =>
    obtain ⟨m, hml, rfl, H, HX1, HY1, HB1⟩ := hrel
    clear HX HY HB
    by_cases hlt : m < tk.length
    · have hi1 : (m : Int) < (tk.length : Int) := by omega
      have hi2 : (m : Int) < (l.length : Int) := by have := unhide HL; omega
      have hlt2 : m < l.length := by omega
      obtain ⟨k, hku⟩ : ∃ k, tk[m]? = some k := ⟨_, List.getElem?_eq_getElem hlt⟩
      obtain ⟨u, hu⟩ : ∃ u, l[m]? = some u := ⟨_, List.getElem?_eq_getElem hlt2⟩
      have E := hide ((unhide H).trans (goes_step hku hu))
      obtain ⟨g, off, rfl, hB, hg, hc⟩ := unhide HK (by intro e; subst e; simp at hlt2)
      have c0 := ((unhide HB1).cell (p := ⟨g, off + m * 2, none⟩) hg).trans (hc m u hu).1
      have c1 := ((unhide HB1).cell (p := ⟨g, off + m * 2 + 1, none⟩) hg).trans (hc m u hu).2
      have d0 := ((unhide HB1).cell (p := ⟨bt, m, none⟩) (unhide HT).2.1).trans ((unhide HT).2.2 m k hku)
      have MB := hide (fun wx => mayBe_any u k wx)
      have HF : Hid (goesB tk l = false → ofR (goesB tk l) (r1, r2) = (⟨0, 0⟩, false)) := hide (fun q => by rw [q]; rfl)
      generalize u.mayB k = q at *
      clear hc hu hku HK H HC
      by_cases hk0 : k = 0
      · subst hk0
        clear MB
        go_wp2
        go_roundw
        case rel => exact ⟨m + 1, by omega, by go_num, hide ((unhide E).trans (by simp)), HX1, HY1, HB1⟩
        case measure => simp [intOf]; omega
      · have hk1 : (k != 0) = true := by simpa using hk0
        have hk2 : (k == 0) = false := by simpa using hk0
        rw [hk2] at E
        go_wp2_with fail
        refine (unhide MB _).mono ?_
        rintro e w2 ⟨rfl, hb2⟩
        have HX2 := hide ((unhide HX1).keep hb2 (unhide HX1).low)
        have HY2 := hide ((unhide HY1).keep hb2 (unhide HY1).low)
        have HB2 := hide (below_via (unhide HB1) hb2)
        clear hb2 MB c0 c1 d0 HX1 HY1 HB1 hk2 hk0
        cases q
        · have EF := hide (unhide HF ((unhide E).trans (by simp)))
          have x0 := (unhide HY2).at0
          have x1 := (unhide HY2).at1
          have t0 := (unhide HY2).th0
          have t1 := (unhide HY2).th1
          have lx := (unhide HY2).low
          clear HX2 HY2 HF E
          go_wp2
          refine bodyPost_ret (v := .tuple #[shn 0 0, .bool false]) (by simp [results, Tryz.results144, go_sem, x0, x1]) rfl ⟨by rw [unhide EF]; rfl, ?_⟩
          exact ((unhide HB2).setCell (by simp) _).setCell (by simp) _
        · go_wp2
          go_roundw
          case rel => exact ⟨m + 1, by omega, by go_num, hide ((unhide E).trans (by simp)), HX2, HY2, HB2⟩
          case measure => simp [intOf]; omega
    · obtain rfl : m = tk.length := by omega
      have E : Hid (ofR (goesB tk l) (r1, r2) = (r1, r2)) := hide (by rw [unhide H, List.drop_length]; simp [goesB, ofR])
      have C1 := hide (unhide HC _ (unhide HB1))
      have y0 := (unhide HX1).at0
      have y1 := (unhide HX1).at1
      clear H HK HC HT
      go_wp2_with fail
      refine (unhide C1).mono ?_
      rintro e w2 ⟨rfl, hb2⟩
      have Y2 := (unhide HY1).keep hb2 (unhide HY1).low
      have HB2 := hide (below_via (unhide HB1) hb2)
      have x0 := Y2.at0
      have x1 := Y2.at1
      have t0 := Y2.th0
      have t1 := Y2.th1
      have lx := Y2.low
      clear hb2 Y2 HX1 HY1 HB1 C1 y0 y1
      go_wp2
      refine bodyPost_ret (v := .tuple #[sh r1, .bool r2]) (by simp [results, Tryz.results144, go_sem, x0, x1]) rfl ⟨by rw [unhide E], ?_⟩
      exact ((unhide HB2).setCell (by simp) _).setCell (by simp) _

set_option maxHeartbeats 8000000 in
theorem of_sum {B : Nat} {l : List Sp} {kv : Value} (tk : List Int) (bt cap : Nat) (w : World) (hT : TkV 0 w tk bt) (h : SL B w kv l) (hl : tk.length = l.length) (r : Sp × Bool)
    (TC : ∀ wx, Below w.heap.size w wx → Calls Tryz.prog 140 #[kv] wx fun e w' => e = .returned (.tuple #[sh r.1, .bool r.2]) ∧ Below wx.heap.size wx w') :
    Calls Tryz.prog 144 #[.agg #[.slice (some ⟨bt, 0, none⟩) tk.length cap, .func (.func 140) #[] #[]], kv] w fun e w' => e = .returned (.tuple #[sh (ofR (goesB tk l) r).1, .bool (ofR (goesB tk l) r).2]) ∧ Below w.heap.size w w' := by
  obtain ⟨r1, r2⟩ := r
  simp only at TC
  obtain ⟨hlen, a, kcap, rfl, hk⟩ := h
  have HK := hide hk
  have HT := hide hT
  have HC := hide TC
  have X0 := (Bx2.new w 232 (.slice (some ⟨bt, 0, none⟩) tk.length cap) (.func (.func 140) #[] #[])).keep ((Below.refl _ _).alloc (Nat.le_refl _) (.cells #[.int .i64 0, .int .i64 0] 158)) (by simp)
  have Y0 := Bx2.new (w.alloc (.cells #[.slice (some ⟨bt, 0, none⟩) tk.length cap, .func (.func 140) #[] #[]] 232)) 158 (.int .i64 0) (.int .i64 0)
  rw [World.size_alloc] at Y0
  have B0 := below2 w (.cells #[.slice (some ⟨bt, 0, none⟩) tk.length cap, .func (.func 140) #[] #[]] 232) (.cells #[.int .i64 0, .int .i64 0] 158)
  have HX := hide X0
  have HY := hide Y0
  have HB := hide B0
  have hlt63 : tk.length ≤ 1000000 := by omega
  have HL := hide hl
  clear X0 Y0 B0 hk hT TC hl
  go_enter Tryz.func144, Tryz.ntmps144
  go_wp2
  go_loopw [11] (fun i wr => ∃ m : Nat, m ≤ tk.length ∧ i = .int .i64 (m : Int) ∧ Hid (goesB tk l = goesB (tk.drop m) (l.drop m)) ∧ Hid (Bx2 wr w.heap.size (.slice (some ⟨bt, 0, none⟩) tk.length cap) (.func (.func 140) #[] #[])) ∧ Hid (Bx2 wr (w.heap.size + 1) (.int .i64 0) (.int .i64 0)) ∧ Hid (Below w.heap.size w wr)) (fun i _ => tk.length - (intOf i).toNat)
  case atStart => exact ⟨0, Nat.zero_le _, rfl, hide rfl, HX, HY, HB⟩
  case round =>
    obtain ⟨m, hml, rfl, H, HX1, HY1, HB1⟩ := hrel
    clear HX HY HB
    by_cases hlt : m < tk.length
    · have hi1 : (m : Int) < (tk.length : Int) := by omega
      have hi2 : (m : Int) < (l.length : Int) := by have := unhide HL; omega
      have hlt2 : m < l.length := by omega
      obtain ⟨k, hku⟩ : ∃ k, tk[m]? = some k := ⟨_, List.getElem?_eq_getElem hlt⟩
      obtain ⟨u, hu⟩ : ∃ u, l[m]? = some u := ⟨_, List.getElem?_eq_getElem hlt2⟩
      have E := hide ((unhide H).trans (goes_step hku hu))
      obtain ⟨g, off, rfl, hB, hg, hc⟩ := unhide HK (by intro e; subst e; simp at hlt2)
      have c0 := ((unhide HB1).cell (p := ⟨g, off + m * 2, none⟩) hg).trans (hc m u hu).1
      have c1 := ((unhide HB1).cell (p := ⟨g, off + m * 2 + 1, none⟩) hg).trans (hc m u hu).2
      have d0 := ((unhide HB1).cell (p := ⟨bt, m, none⟩) (unhide HT).2.1).trans ((unhide HT).2.2 m k hku)
      have MB := hide (fun wx => mayBe_any u k wx)
      have HF : Hid (goesB tk l = false → ofR (goesB tk l) (r1, r2) = (⟨0, 0⟩, false)) := hide (fun q => by rw [q]; rfl)
      generalize u.mayB k = q at *
      clear hc hu hku HK H HC
      by_cases hk0 : k = 0
      · subst hk0
        clear MB
        go_wp2
        go_roundw
        case rel => exact ⟨m + 1, by omega, by go_num, hide ((unhide E).trans (by simp)), HX1, HY1, HB1⟩
        case measure => simp [intOf]; omega
      · have hk1 : (k != 0) = true := by simpa using hk0
        have hk2 : (k == 0) = false := by simpa using hk0
        rw [hk2] at E
        go_wp2_with fail
        refine (unhide MB _).mono ?_
        rintro e w2 ⟨rfl, hb2⟩
        have HX2 := hide ((unhide HX1).keep hb2 (unhide HX1).low)
        have HY2 := hide ((unhide HY1).keep hb2 (unhide HY1).low)
        have HB2 := hide (below_via (unhide HB1) hb2)
        clear hb2 MB c0 c1 d0 HX1 HY1 HB1 hk2 hk0
        cases q
        · have EF := hide (unhide HF ((unhide E).trans (by simp)))
          have x0 := (unhide HY2).at0
          have x1 := (unhide HY2).at1
          have t0 := (unhide HY2).th0
          have t1 := (unhide HY2).th1
          have lx := (unhide HY2).low
          clear HX2 HY2 HF E
          go_wp2
          refine bodyPost_ret (v := .tuple #[shn 0 0, .bool false]) (by simp [results, Tryz.results144, go_sem, x0, x1]) rfl ⟨by rw [unhide EF]; rfl, ?_⟩
          exact ((unhide HB2).setCell (by simp) _).setCell (by simp) _
        · go_wp2
          go_roundw
          case rel => exact ⟨m + 1, by omega, by go_num, hide ((unhide E).trans (by simp)), HX2, HY2, HB2⟩
          case measure => simp [intOf]; omega
    · obtain rfl : m = tk.length := by omega
      have E : Hid (ofR (goesB tk l) (r1, r2) = (r1, r2)) := hide (by rw [unhide H, List.drop_length]; simp [goesB, ofR])
      have C1 := hide (unhide HC _ (unhide HB1))
      have y0 := (unhide HX1).at0
      have y1 := (unhide HX1).at1
      clear H HK HC HT
      go_wp2_with fail
      refine (unhide C1).mono ?_
      rintro e w2 ⟨rfl, hb2⟩
      have Y2 := (unhide HY1).keep hb2 (unhide HY1).low
      have HB2 := hide (below_via (unhide HB1) hb2)
      have x0 := Y2.at0
      have x1 := Y2.at1
      have t0 := Y2.th0
      have t1 := Y2.th1
      have lx := Y2.low
      clear hb2 Y2 HX1 HY1 HB1 C1 y0 y1
      go_wp2
      refine bodyPost_ret (v := .tuple #[sh r1, .bool r2]) (by simp [results, Tryz.results144, go_sem, x0, x1]) rfl ⟨by rw [unhide E], ?_⟩
      exact ((unhide HB2).setCell (by simp) _).setCell (by simp) _

set_option maxHeartbeats 8000000 in
theorem of_between {B : Nat} {l : List Sp} {kv : Value} (tk : List Int) (bt cap : Nat) (w : World) (hT : TkV 0 w tk bt) (h : SL B w kv l) (hl : tk.length = l.length) (r : Sp × Bool)
    (TC : ∀ wx, Below w.heap.size w wx → Calls Tryz.prog 142 #[kv] wx fun e w' => e = .returned (.tuple #[sh r.1, .bool r.2]) ∧ Below wx.heap.size wx w') :
    Calls Tryz.prog 144 #[.agg #[.slice (some ⟨bt, 0, none⟩) tk.length cap, .func (.func 142) #[] #[]], kv] w fun e w' => e = .returned (.tuple #[sh (ofR (goesB tk l) r).1, .bool (ofR (goesB tk l) r).2]) ∧ Below w.heap.size w w' := by
  obtain ⟨r1, r2⟩ := r
  simp only at TC
  obtain ⟨hlen, a, kcap, rfl, hk⟩ := h
  have HK := hide hk
  have HT := hide hT
  have HC := hide TC
  have X0 := (Bx2.new w 232 (.slice (some ⟨bt, 0, none⟩) tk.length cap) (.func (.func 142) #[] #[])).keep ((Below.refl _ _).alloc (Nat.le_refl _) (.cells #[.int .i64 0, .int .i64 0] 158)) (by simp)
  have Y0 := Bx2.new (w.alloc (.cells #[.slice (some ⟨bt, 0, none⟩) tk.length cap, .func (.func 142) #[] #[]] 232)) 158 (.int .i64 0) (.int .i64 0)
  rw [World.size_alloc] at Y0
  have B0 := below2 w (.cells #[.slice (some ⟨bt, 0, none⟩) tk.length cap, .func (.func 142) #[] #[]] 232) (.cells #[.int .i64 0, .int .i64 0] 158)
  have HX := hide X0
  have HY := hide Y0
  have HB := hide B0
  have hlt63 : tk.length ≤ 1000000 := by omega
  have HL := hide hl
  clear X0 Y0 B0 hk hT TC hl
  go_enter Tryz.func144, Tryz.ntmps144
  go_wp2
  go_loopw [11] (fun i wr => ∃ m : Nat, m ≤ tk.length ∧ i = .int .i64 (m : Int) ∧ Hid (goesB tk l = goesB (tk.drop m) (l.drop m)) ∧ Hid (Bx2 wr w.heap.size (.slice (some ⟨bt, 0, none⟩) tk.length cap) (.func (.func 142) #[] #[])) ∧ Hid (Bx2 wr (w.heap.size + 1) (.int .i64 0) (.int .i64 0)) ∧ Hid (Below w.heap.size w wr)) (fun i _ => tk.length - (intOf i).toNat)
  case atStart => exact ⟨0, Nat.zero_le _, rfl, hide rfl, HX, HY, HB⟩
  case round =>
    obtain ⟨m, hml, rfl, H, HX1, HY1, HB1⟩ := hrel
    clear HX HY HB
    by_cases hlt : m < tk.length
    · have hi1 : (m : Int) < (tk.length : Int) := by omega
      have hi2 : (m : Int) < (l.length : Int) := by have := unhide HL; omega
      have hlt2 : m < l.length := by omega
      obtain ⟨k, hku⟩ : ∃ k, tk[m]? = some k := ⟨_, List.getElem?_eq_getElem hlt⟩
      obtain ⟨u, hu⟩ : ∃ u, l[m]? = some u := ⟨_, List.getElem?_eq_getElem hlt2⟩
      have E := hide ((unhide H).trans (goes_step hku hu))
      obtain ⟨g, off, rfl, hB, hg, hc⟩ := unhide HK (by intro e; subst e; simp at hlt2)
      have c0 := ((unhide HB1).cell (p := ⟨g, off + m * 2, none⟩) hg).trans (hc m u hu).1
      have c1 := ((unhide HB1).cell (p := ⟨g, off + m * 2 + 1, none⟩) hg).trans (hc m u hu).2
      have d0 := ((unhide HB1).cell (p := ⟨bt, m, none⟩) (unhide HT).2.1).trans ((unhide HT).2.2 m k hku)
      have MB := hide (fun wx => mayBe_any u k wx)
      have HF : Hid (goesB tk l = false → ofR (goesB tk l) (r1, r2) = (⟨0, 0⟩, false)) := hide (fun q => by rw [q]; rfl)
      generalize u.mayB k = q at *
      clear hc hu hku HK H HC
      by_cases hk0 : k = 0
      · subst hk0
        clear MB
        go_wp2
        go_roundw
        case rel => exact ⟨m + 1, by omega, by go_num, hide ((unhide E).trans (by simp)), HX1, HY1, HB1⟩
        case measure => simp [intOf]; omega
      · have hk1 : (k != 0) = true := by simpa using hk0
        have hk2 : (k == 0) = false := by simpa using hk0
        rw [hk2] at E
        go_wp2_with fail
        refine (unhide MB _).mono ?_
        rintro e w2 ⟨rfl, hb2⟩
        have HX2 := hide ((unhide HX1).keep hb2 (unhide HX1).low)
        have HY2 := hide ((unhide HY1).keep hb2 (unhide HY1).low)
        have HB2 := hide (below_via (unhide HB1) hb2)
        clear hb2 MB c0 c1 d0 HX1 HY1 HB1 hk2 hk0
        cases q
        · have EF := hide (unhide HF ((unhide E).trans (by simp)))
          have x0 := (unhide HY2).at0
          have x1 := (unhide HY2).at1
          have t0 := (unhide HY2).th0
          have t1 := (unhide HY2).th1
          have lx := (unhide HY2).low
          clear HX2 HY2 HF E
          go_wp2
          refine bodyPost_ret (v := .tuple #[shn 0 0, .bool false]) (by simp [results, Tryz.results144, go_sem, x0, x1]) rfl ⟨by rw [unhide EF]; rfl, ?_⟩
          exact ((unhide HB2).setCell (by simp) _).setCell (by simp) _
        · go_wp2
          go_roundw
          case rel => exact ⟨m + 1, by omega, by go_num, hide ((unhide E).trans (by simp)), HX2, HY2, HB2⟩
          case measure => simp [intOf]; omega
    · obtain rfl : m = tk.length := by omega
      have E : Hid (ofR (goesB tk l) (r1, r2) = (r1, r2)) := hide (by rw [unhide H, List.drop_length]; simp [goesB, ofR])
      have C1 := hide (unhide HC _ (unhide HB1))
      have y0 := (unhide HX1).at0
      have y1 := (unhide HX1).at1
      clear H HK HC HT
      go_wp2_with fail
      refine (unhide C1).mono ?_
      rintro e w2 ⟨rfl, hb2⟩
      have Y2 := (unhide HY1).keep hb2 (unhide HY1).low
      have HB2 := hide (below_via (unhide HB1) hb2)
      have x0 := Y2.at0
      have x1 := Y2.at1
      have t0 := Y2.th0
      have t1 := Y2.th1
      have lx := Y2.low
      clear hb2 Y2 HX1 HY1 HB1 C1 y0 y1
      go_wp2
      refine bodyPost_ret (v := .tuple #[sh r1, .bool r2]) (by simp [results, Tryz.results144, go_sem, x0, x1]) rfl ⟨by rw [unhide E], ?_⟩
      exact ((unhide HB2).setCell (by simp) _).setCell (by simp) _

end Go.Proofs.YtnegjbkbfgkkjaaGreatDoor

/- Walks: mayMeet, ofAdd. (Written by gen_ye.py.) -/
namespace Go.Proofs.YtnegjbkbfgkkjaaGreatDoor
open Go.RowKit

set_option maxHeartbeats 4000000 in
theorem mayMeet_any (a b : Sp) (w : World) (ha : a.n ≤ 100000) (hb : b.n ≤ 100000) :
    Calls Tryz.prog 150 #[sh a, sh b] w fun e w' => e = .returned (.bool (a.meetB b)) ∧ Below w.heap.size w w' := by
  have P := hide (fun wx => peeled_any a b wx ha hb)
  have HE : a.meetB b = (Sp.openB ⟨a.n - min a.n b.n, a.k⟩ || (Sp.openB ⟨b.n - min a.n b.n, b.k⟩ || decide (((a.n - min a.n b.n : Nat) : Int) = ((b.n - min a.n b.n : Nat) : Int) ∧ a.k = b.k))) := by
    unfold Sp.meetB
    rw [decide_eq_decide.2 (show (a.n = b.n ∧ a.k = b.k) ↔ (((a.n - min a.n b.n : Nat) : Int) = ((b.n - min a.n b.n : Nat) : Int) ∧ a.k = b.k) by omega)]
  obtain ⟨a', hA⟩ : ∃ a' : Sp, a' = ⟨a.n - min a.n b.n, a.k⟩ := ⟨_, rfl⟩
  obtain ⟨b', hB⟩ : ∃ b' : Sp, b' = ⟨b.n - min a.n b.n, b.k⟩ := ⟨_, rfl⟩
  rw [← hA, ← hB] at P
  have HF : Hid (a.meetB b = (a'.openB || (b'.openB || decide ((a'.n : Int) = (b'.n : Int) ∧ a'.k = b'.k)))) := hide (by rw [hA, hB]; exact HE)
  clear hA hB HE
  have I1 := hide (fun wx => isOpen_any a' wx)
  have I2 := hide (fun wx => isOpen_any b' wx)
  generalize a'.openB = p1 at *
  generalize b'.openB = p2 at *
  go_enter Tryz.func150, Tryz.ntmps150
  go_wp2_with fail
  refine (unhide P _).mono ?_
  rintro e w1 ⟨rfl, hb1⟩
  have B1 : Below w.heap.size w w1 := below_via (below2 w _ _) hb1
  clear hb1 P
  have HB := hide B1
  have hz := B1.size
  clear B1
  go_wp2_with fail
  refine (unhide I1 _).mono ?_
  rintro e w2 ⟨rfl, hb2⟩
  have X5 := ((Bx2.new w1 158 (.int .i64 a'.n) (.int .i64 a'.k)).keep ((Below.refl _ _).alloc (Nat.le_refl _) (.cells #[.int .i64 b'.n, .int .i64 b'.k] 158)) (by simp)).keep hb2 (by simp; omega)
  have X6 := (Bx2.new (w1.alloc (.cells #[.int .i64 a'.n, .int .i64 a'.k] 158)) 158 (.int .i64 b'.n) (.int .i64 b'.k)).keep hb2 (by simp)
  have B2 := hide (below_via (unhide HB) (below_via (below2 w1 _ _) hb2))
  simp only [World.size_alloc] at X6
  clear hb2 HB
  cases p1
  · have Y5 := hide X5
    have Y6 := hide X6
    have e0 := X6.at0
    have e1 := X6.at1
    clear X5 X6
    go_wp2_with fail
    refine (unhide I2 _).mono ?_
    rintro e w3 ⟨rfl, hb3⟩
    have X5 := (unhide Y5).keep hb3 (unhide Y5).low
    have X6 := (unhide Y6).keep hb3 (unhide Y6).low
    have B3 := hide (below_via (unhide B2) hb3)
    clear hb3 B2 Y5 Y6 e0 e1
    cases p2
    · have f0 := X5.at0
      have f1 := X5.at1
      have e0 := X6.at0
      have e1 := X6.at1
      clear X5 X6 I1 I2
      by_cases h1 : (a'.n : Int) = (b'.n : Int)
      · by_cases h2 : a'.k = b'.k
        · rw [decide_eq_true (And.intro h1 h2)] at HF
          rw [← h1] at e0
          rw [← h2] at e1
          go_wp2
          go_ret
          exact ⟨by rw [unhide HF]; rfl, unhide B3⟩
        · rw [decide_eq_false (fun h => h2 h.2)] at HF
          have h3 : (a'.k == b'.k) = false := by simpa using h2
          rw [← h1] at e0
          go_wp2
          go_ret
          exact ⟨by rw [unhide HF]; rfl, unhide B3⟩
      · rw [decide_eq_false (fun h => h1 h.1)] at HF
        have h3 : ((a'.n : Int) == (b'.n : Int)) = false := by simpa using h1
        go_wp2
        go_ret
        exact ⟨by rw [unhide HF]; rfl, unhide B3⟩
    · clear X5 X6 I1 I2
      go_wp2
      go_ret
      exact ⟨by rw [unhide HF]; rfl, unhide B3⟩
  · clear X5 X6 I1 I2
    go_wp2
    go_ret
    exact ⟨by rw [unhide HF]; rfl, unhide B2⟩
end Go.Proofs.YtnegjbkbfgkkjaaGreatDoor
