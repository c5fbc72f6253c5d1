/- Walks: names and their types; literals. -/
import Derived.Test.YtdgojpjmhalilaaGreatDoorG17
import Derived.Test.YtdgojpjmhalilaaGreatDoorG16
import Derived.BigRegion
import Derived.Test.YtdgojpjmhalilaaGreatDoorG08
import Derived.Test.YtdgojpjmhalilaaGreatDoorG09
namespace Go.Proofs.YtdgojpjmhalilaaGreatDoor
open Go.RowKit Go.MapKept

theorem zero_sh (w : World) : (zeroValue 47).run Tryz.prog w = .ok (shn 0 0) w := by
  obtain ⟨i0, hi, hz0, hz1, hz2⟩ := info_parts info_shp
  simp [zeroValue, typeInfo, hi, hz0]
def envV (E : Ev) : ByteArray → Option Value := fun s => (E s).map sh
theorem envV_upd (E : Ev) (s : ByteArray) (a : Option Sp) : updV (envV E) s (a.map sh) = envV (E.upd s a) := by
  funext x
  unfold updV envV Ev.upd
  split <;> rfl
/-- a typer at work -/
structure TyS (B lo bt bn bf : Nat) (E : Ev) (M : Nat) (w : World) : Prop where
  lowB : B ≤ bn
  lon : bn < lo
  lot : lo ≤ bt
  box : Bx2 w bt (.map (some bn)) (.map (some bf))
  names : MapF bn (envV E) w
  fns : FnM lo bf w fnTab
  bd : E.bd M
theorem TyS.keep {B lo bt bn bf : Nat} {E : Ev} {M : Nat} {w w' : World} (S : TyS B lo bt bn bf E M w) (hb : Below w.heap.size w w') : TyS B lo bt bn bf E M w' :=
  ⟨S.lowB, S.lon, S.lot, S.box.keep hb S.box.low, S.names.keep hb, S.fns.keep (by have := S.lon; omega) hb, S.bd⟩
theorem TyS.but {B lo bt bn bf : Nat} {E E' : Ev} {M M' : Nat} {w w' : World} (S : TyS B lo bt bn bf E M w) (hb : But bn w w') (hn : MapF bn (envV E') w') (hd : E'.bd M') : TyS B lo bt bn bf E' M' w' :=
  ⟨S.lowB, S.lon, S.lot, S.box.but hb (by have := S.lon; have := S.lot; omega), hn, S.fns.but S.lon hb, hd⟩

set_option maxHeartbeats 4000000 in
theorem ofName_any {B lo bt bn bf : Nat} {E : Ev} {M : Nat} {w : World} (S : TyS B lo bt bn bf E M w) (s : ByteArray) :
    Calls Tryz.prog 20 #[.pointer (some ⟨bt, 0, none⟩), .string s] w fun e w' => e = .returned (.tuple #[sh (nameF (E s)).2, .int .i64 (nameF (E s)).1]) ∧ Below w.heap.size w w' := by
  have hb0 := (Below.refl w.heap.size w).alloc (Nat.le_refl _) (.cells #[.int .i64 0, .int .i64 0] 47)
  have c0 := (S.box.keep hb0 S.box.low).at0
  have N0 := S.names.keep hb0
  have lb := S.box.low
  have X0 := Bx2.new w 47 (.int .i64 0) (.int .i64 0)
  have HB := hide hb0
  clear hb0
  cases hE : E s with
  | none =>
    have hlk := N0.miss (s := s) Tryz.underlying57 Tryz.underlying9 (zero_sh _) (by unfold envV; rw [hE]; rfl)
    clear N0 S hE X0
    go_enter Tryz.func20, Tryz.ntmps20
    go_wp2
    refine bodyPost_ret (v := .tuple #[shn 0 0, .int .i64 7]) (by simp [results, Tryz.results20, go_sem]) rfl ⟨rfl, ?_⟩
    repeat (first | exact unhide HB | exact (Below.refl _ _) | refine Below.setCell ?_ (by simp) _ | refine Below.alloc ?_ (by simp) _)
  | some a =>
    have hlk := N0.look (s := s) (v := sh a) Tryz.underlying57 Tryz.underlying9 (by unfold envV; rw [hE]; rfl)
    clear N0 S hE X0
    go_enter Tryz.func20, Tryz.ntmps20
    go_wp2
    refine bodyPost_ret (v := .tuple #[sh a, .int .i64 0]) (by simp [results, Tryz.results20, go_sem]) rfl ⟨rfl, ?_⟩
    repeat (first | exact unhide HB | exact (Below.refl _ _) | refine Below.setCell ?_ (by simp) _ | refine Below.alloc ?_ (by simp) _)

set_option maxHeartbeats 4000000 in
theorem ofLiteral_any (k : Int) (v1 v2 v3 v4 v5 : Value) (w : World) :
    Calls Tryz.prog 19 #[.agg #[.int .i64 k, v1, v2, v3, v4, v5]] w fun e w' => e = .returned (sh (litTy k)) ∧ Below w.heap.size w w' := by
  have hb0 := below2 w (.cells #[.int .i64 k, v1, v2, v3, v4, v5] 26) (.cells #[.int .i64 0, .int .i64 0] 47)
  have X0 := Bx2.new (w.alloc (.cells #[.int .i64 k, v1, v2, v3, v4, v5] 26)) 47 (.int .i64 0) (.int .i64 0)
  rw [World.size_alloc] at X0
  have HB := hide hb0
  have HX := hide X0
  clear hb0 X0
  have h : (k = 2 ∧ litTy k = ⟨0, 2⟩) ∨ (k = 3 ∧ litTy k = ⟨0, 3⟩) ∨ (k = 4 ∧ litTy k = ⟨0, 4⟩) ∨ (k ≠ 2 ∧ k ≠ 3 ∧ k ≠ 4 ∧ litTy k = ⟨0, 1⟩) := by
    unfold litTy
    by_cases h2 : k = 2
    · left; exact ⟨h2, by rw [if_pos h2]⟩
    by_cases h3 : k = 3
    · right; left; exact ⟨h3, by rw [if_neg h2, if_pos h3]⟩
    by_cases h4 : k = 4
    · right; right; left; exact ⟨h4, by rw [if_neg h2, if_neg h3, if_pos h4]⟩
    · right; right; right; exact ⟨h2, h3, h4, by rw [if_neg h2, if_neg h3, if_neg h4]⟩
  have fin : ∀ w1, Below (w.heap.size + 1 + 1) ((w.alloc (.cells #[.int .i64 k, v1, v2, v3, v4, v5] 26)).alloc (.cells #[.int .i64 0, .int .i64 0] 47)) w1 → Bx2 w1 (w.heap.size + 1) (.int .i64 0) (.int .i64 0) ∧ Below w.heap.size w w1 := fun w1 hb => ⟨(unhide HX).keep (B := w.heap.size + 1 + 1) hb (by omega), (unhide HB).trans (hb.mono (by omega))⟩
  have FI := hide fin
  clear fin HX HB
  rcases h with ⟨rfl, hl⟩ | ⟨rfl, hl⟩ | ⟨rfl, hl⟩ | ⟨h2, h3, h4, hl⟩
  all_goals
    rw [hl]
    clear hl
    try
      have g2 : (k == 2) = false := by simpa using h2
      have g3 : (k == 3) = false := by simpa using h3
      have g4 : (k == 4) = false := by simpa using h4
      clear h2 h3 h4
    go_enter Tryz.func19, Tryz.ntmps19
    go_wp2_with fail
    refine (plain_any _ _).mono ?_
    rintro e w1 ⟨rfl, hb⟩
    obtain ⟨X2, hw⟩ := unhide FI w1 (by simpa using hb)
    have HW := hide hw
    have x0 := X2.at0
    have x1 := X2.at1
    have t0 := X2.th0
    have t1 := X2.th1
    have lx := X2.low
    clear hb hw X2 FI
    go_wp2
    refine bodyPost_ret (v := shn 0 _) (by simp [results, Tryz.results19, go_sem, x0, x1]) rfl ⟨rfl, ?_⟩
    exact ((unhide HW).setCell (by simp) _).setCell (by simp) _
end Go.Proofs.YtdgojpjmhalilaaGreatDoor

/- Walks: ofAdd. (Written by gen_ye.py.) -/
namespace Go.Proofs.YtdgojpjmhalilaaGreatDoor
open Go.RowKit

def kk (m : Nat) : Int := if m = 0 then 3 else 4
def condB (a b : Sp) (k : Int) : Bool := (a.mayB k && b.mayB k) && (a.isB k || b.isB k)
theorem addF_at {a b : Sp} {m : Nat} (hm : m < 2) (h : ∀ j, j < m → condB a b (kk j) = false) (ht : condB a b (kk m) = true) : addF a b = (⟨0, kk m⟩, true) := by
  have e : addF a b = if condB a b 3 then (⟨0, 3⟩, true) else if condB a b 4 then (⟨0, 4⟩, true) else (⟨0, 6⟩, a.openB && b.openB) := rfl
  rcases (by omega : m = 0 ∨ m = 1) with rfl | rfl
  · rw [e, if_pos (show condB a b 3 = true from ht)]; rfl
  · rw [e, if_neg (by rw [show condB a b 3 = false from h 0 (by omega)]; decide), if_pos (show condB a b 4 = true from ht)]; rfl
theorem addF_no {a b : Sp} (h : ∀ j, j < 2 → condB a b (kk j) = false) : addF a b = (⟨0, 6⟩, a.openB && b.openB) := by
  have e : addF a b = if condB a b 3 then (⟨0, 3⟩, true) else if condB a b 4 then (⟨0, 4⟩, true) else (⟨0, 6⟩, a.openB && b.openB) := rfl
  rw [e, if_neg (by rw [show condB a b 3 = false from h 0 (by omega)]; decide), if_neg (by rw [show condB a b 4 = false from h 1 (by omega)]; decide)]
theorem allB2 (a b : Sp) (k : Int) : allB [a, b] k = (a.mayB k && b.mayB k) := by simp [allB]

set_option maxHeartbeats 8000000 in
theorem ofAdd_any {B : Nat} {v : Value} (a b : Sp) (w : World) (h : SL B w v [a, b]) :
    Calls Tryz.prog 46 #[v] w fun e w' => e = .returned (.tuple #[sh (addF a b).1, .bool (addF a b).2]) ∧ Below w.heap.size w w' := by
  have AM := hide (fun k wx (hb : Below w.heap.size w wx) => allMayBe_any k wx (h.keep hb))
  obtain ⟨g, off, cap, rfl, hg, hl, c0, c1⟩ := h.at (i := 0) rfl
  obtain ⟨g', off', cap', hv, _, _, c2, c3⟩ := h.at (i := 1) rfl
  simp only [Value.slice.injEq, Option.some.injEq, Addr.mk.injEq, and_true, true_and] at hv
  obtain ⟨⟨rfl, rfl⟩, rfl⟩ := hv
  clear h hl
  simp only [allB2] at AM
  simp only [Nat.zero_mul, Nat.add_zero, Nat.one_mul] at c0 c1 c2 c3
  have I0 := hide (fun k wx => isB_any a k wx)
  have I1 := hide (fun k wx => isB_any b k wx)
  have O0 := hide (fun wx => isOpen_any a wx)
  have O1 := hide (fun wx => isOpen_any b wx)
  show Calls Tryz.prog 46 #[.slice (some ⟨g, off, none⟩) 2 cap] w _
  go_enter Tryz.func46, Tryz.ntmps46
  go_wp2_with fail
  have X0 := (Bx2.new w 47 (.int .i64 0) (.int .i64 0)).keep ((Below.refl _ _).alloc (Nat.le_refl _) (.cells #[.int .i64 3, .int .i64 4] 3)) (by simp)
  have Y0 := Bx2.new (w.alloc (.cells #[.int .i64 0, .int .i64 0] 47)) 3 (.int .i64 3) (.int .i64 4)
  have B0 := below2 w (.cells #[.int .i64 0, .int .i64 0] 47) (.cells #[.int .i64 3, .int .i64 4] 3)
  rw [World.size_alloc] at Y0
  have d0 := (B0.cell (p := ⟨g, off, none⟩) hg).trans c0
  have d1 := (B0.cell (p := ⟨g, off + 1, none⟩) hg).trans c1
  have d2 := (B0.cell (p := ⟨g, off + 2, none⟩) hg).trans c2
  have d3 := (B0.cell (p := ⟨g, off + 2 + 1, none⟩) hg).trans c3
  have hg0 := Nat.lt_of_lt_of_le hg B0.size
  generalize (w.alloc (.cells #[.int .i64 0, .int .i64 0] 47)).alloc (.cells #[.int .i64 3, .int .i64 4] 3) = w0 at *
  have KP : Hid (∀ wx, Below w0.heap.size w0 wx → wx.cell? ⟨g, off, none⟩ = some (.int .i64 (a.n : Int)) ∧ wx.cell? ⟨g, off + 1, none⟩ = some (.int .i64 a.k) ∧ wx.cell? ⟨g, off + 2, none⟩ = some (.int .i64 (b.n : Int)) ∧ wx.cell? ⟨g, off + 2 + 1, none⟩ = some (.int .i64 b.k) ∧ wx.cell? ⟨w.heap.size, 0, none⟩ = some (.int .i64 0) ∧ wx.cell? ⟨w.heap.size, 1, none⟩ = some (.int .i64 0) ∧ wx.frozen? ⟨w.heap.size, 0, none⟩ = false ∧ wx.frozen? ⟨w.heap.size, 1, none⟩ = false ∧ w.heap.size < wx.heap.size) := hide (fun wx hb => ⟨(hb.cell (p := ⟨g, off, none⟩) hg0).trans d0, (hb.cell (p := ⟨g, off + 1, none⟩) hg0).trans d1, (hb.cell (p := ⟨g, off + 2, none⟩) hg0).trans d2, (hb.cell (p := ⟨g, off + 2 + 1, none⟩) hg0).trans d3, (X0.keep hb X0.low).at0, (X0.keep hb X0.low).at1, (X0.keep hb X0.low).th0, (X0.keep hb X0.low).th1, (X0.keep hb X0.low).low⟩)
  have KL : Hid (∀ wx, Below w0.heap.size w0 wx → ∀ m, m < 2 → wx.cell? ⟨w.heap.size + 1, m, none⟩ = some (.int .i64 (kk m))) := hide (fun wx hb m hm => by
    rcases (by omega : m = 0 ∨ m = 1) with rfl | rfl
    · exact (Y0.keep hb Y0.low).at0
    · exact (Y0.keep hb Y0.low).at1)
  have HB := hide B0
  clear d0 d1 d2 d3 c0 c1 c2 c3 X0 Y0 B0 hg hg0
  go_loopw [8] (fun i wr => ∃ m : Nat, m ≤ 2 ∧ i = .int .i64 (m : Int) ∧ Hid (∀ j, j < m → condB a b (kk j) = false) ∧ Hid (Below w0.heap.size w0 wr)) (fun i _ => 2 - (intOf i).toNat)
  case atStart => exact ⟨0, by omega, rfl, hide (fun j hj => absurd hj (Nat.not_lt_zero _)), hide (Below.refl _ _)⟩
  case round =>
    obtain ⟨m, hm, rfl, HC, HW⟩ := hrel
    by_cases hlt : m < 2
    · have hi1 : (m : Int) < 2 := by omega
      obtain ⟨c0, c1, c2, c3, x0, x1, t0, t1, lx⟩ := unhide KP _ (unhide HW)
      have l0 := unhide KL _ (unhide HW) m hlt
      have EA := hide (fun h => addF_at hlt (unhide HC) h)
      have HN : Hid (condB a b (kk m) = false → ∀ j, j < m + 1 → condB a b (kk j) = false) := hide (fun q j hj => by
        rcases Nat.lt_or_ge j m with hj' | hj'
        · exact unhide HC j hj'
        · rw [show j = m by omega]; exact q)
      have ED : Hid (condB a b (kk m) = ((a.mayB (kk m) && b.mayB (kk m)) && (a.isB (kk m) || b.isB (kk m)))) := hide rfl
      replace AM := hide (unhide AM (kk m))
      replace I0 := hide (unhide I0 (kk m))
      replace I1 := hide (unhide I1 (kk m))
      generalize (a.mayB (kk m) && b.mayB (kk m)) = p at *
      generalize a.isB (kk m) = q0 at *
      generalize b.isB (kk m) = q1 at *
      generalize condB a b (kk m) = cc at *
      generalize kk m = kd at *
      clear O0 O1 HC KL
      go_wp2_with fail
      refine (unhide AM _ (below_via (unhide HB) (unhide HW))).mono ?_
      rintro e w1 ⟨rfl, hb⟩
      have HW1 := hide (below_via (unhide HW) hb)
      clear hb c0 c1 c2 c3 x0 x1 t0 t1 lx l0 AM
      cases p
      · obtain rfl : cc = false := unhide ED
        go_wp2
        go_roundw
        case rel => exact ⟨m + 1, by omega, by go_num, hide (unhide HN (by trivial)), HW1⟩
        case measure => simp [intOf]; omega
      obtain ⟨c0, c1, c2, c3, x0, x1, t0, t1, lx⟩ := unhide KP _ (unhide HW1)
      go_wp2_with fail
      refine (unhide I0 _).mono ?_
      rintro e w2 ⟨rfl, hb⟩
      have HW2 := hide (below_via (unhide HW1) hb)
      clear hb c0 c1 c2 c3 x0 x1 t0 t1 lx I0 HW1 HW
      obtain ⟨c0, c1, c2, c3, x0, x1, t0, t1, lx⟩ := unhide KP _ (unhide HW2)
      cases q0
      · go_wp2_with fail
        refine (unhide I1 _).mono ?_
        rintro e w3 ⟨rfl, hb⟩
        have HW3 := hide (below_via (unhide HW2) hb)
        clear hb c0 c1 c2 c3 x0 x1 t0 t1 lx I1 HW2
        cases q1
        · obtain rfl : cc = false := unhide ED
          go_wp2
          go_roundw
          case rel => exact ⟨m + 1, by omega, by go_num, hide (unhide HN (by trivial)), HW3⟩
          case measure => simp [intOf]; omega
        obtain rfl : cc = true := unhide ED
        have E := hide (unhide EA rfl)
        go_wp2_with fail
        refine (plain_any _ _).mono ?_
        rintro e w4 ⟨rfl, hb⟩
        have HW4 := hide (below_via (unhide HW3) hb)
        obtain ⟨c0, c1, c2, c3, x0, x1, t0, t1, lx⟩ := unhide KP _ (unhide HW4)
        clear hb HW3 EA HN ED
        go_wp2
        refine bodyPost_ret (v := .tuple #[shn 0 kd, .bool true]) (by simp [results, Tryz.results46, go_sem, x0, x1]) rfl ⟨by rw [unhide E]; rfl, ?_⟩
        exact ((below_via (unhide HB) (unhide HW4)).setCell (by simp) _).setCell (by simp) _
      · obtain rfl : cc = true := unhide ED
        have E := hide (unhide EA rfl)
        clear I1 c0 c1 c2 c3 x0 x1 t0 t1 lx
        go_wp2_with fail
        refine (plain_any _ _).mono ?_
        rintro e w4 ⟨rfl, hb⟩
        have HW4 := hide (below_via (unhide HW2) hb)
        obtain ⟨c0, c1, c2, c3, x0, x1, t0, t1, lx⟩ := unhide KP _ (unhide HW4)
        clear hb HW2 EA HN ED
        go_wp2
        refine bodyPost_ret (v := .tuple #[shn 0 kd, .bool true]) (by simp [results, Tryz.results46, go_sem, x0, x1]) rfl ⟨by rw [unhide E]; rfl, ?_⟩
        exact ((below_via (unhide HB) (unhide HW4)).setCell (by simp) _).setCell (by simp) _
    · obtain rfl : m = 2 := by omega
      have E := hide (addF_no (unhide HC))
      obtain ⟨c0, c1, c2, c3, x0, x1, t0, t1, lx⟩ := unhide KP _ (unhide HW)
      have KP2 : Hid (∀ wx, Below wr.heap.size wr wx → wx.cell? ⟨g, off, none⟩ = some (.int .i64 (a.n : Int)) ∧ wx.cell? ⟨g, off + 1, none⟩ = some (.int .i64 a.k) ∧ wx.cell? ⟨g, off + 2, none⟩ = some (.int .i64 (b.n : Int)) ∧ wx.cell? ⟨g, off + 2 + 1, none⟩ = some (.int .i64 b.k) ∧ wx.cell? ⟨w.heap.size, 0, none⟩ = some (.int .i64 0) ∧ wx.cell? ⟨w.heap.size, 1, none⟩ = some (.int .i64 0) ∧ wx.frozen? ⟨w.heap.size, 0, none⟩ = false ∧ wx.frozen? ⟨w.heap.size, 1, none⟩ = false ∧ w.heap.size < wx.heap.size) := hide (fun wx hb => unhide KP wx (below_via (unhide HW) hb))
      have HB2 := hide (below_via (unhide HB) (unhide HW))
      generalize a.openB = p at *
      generalize b.openB = q at *
      clear AM I0 I1 HC KL KP HW HB
      go_wp2_with fail
      cases p
      all_goals
        first
        | go_region_with (first
          | (go_at_call 40; refine (plain_any _ _).mono ?_; rintro e w1 ⟨rfl, hb⟩; replace hb : Below wr.heap.size wr w1 := below_via (by repeat (first | assumption | exact Below.refl _ _ | apply Below.drew)) hb; obtain ⟨c0, c1, c2, c3, x0, x1, t0, t1, lx⟩ := unhide KP2 _ hb)
          | (go_at_call 64; (first | with_reducible refine (unhide O0 _).mono ?_ | with_reducible refine (unhide O1 _).mono ?_); rintro e w1 ⟨rfl, hb⟩; replace hb : Below wr.heap.size wr w1 := below_via (by repeat (first | assumption | exact Below.refl _ _ | apply Below.drew)) hb; obtain ⟨c0, c1, c2, c3, x0, x1, t0, t1, lx⟩ := unhide KP2 _ hb))
        | fail
      all_goals
        have HW := hide (below_via (unhide HB2) hb)
        clear hb
        go_wp2
        refine bodyPost_ret (v := .tuple #[sh (addF a b).1, .bool (addF a b).2]) (by rw [unhide E]; simp [results, Tryz.results46, go_sem, x0, x1]) rfl ⟨rfl, ?_⟩
        repeat (first | exact unhide HW | apply Below.drew | refine Below.setCell ?_ (by simp) _)
end Go.Proofs.YtdgojpjmhalilaaGreatDoor

/- Walks: ofNode. (Written by gen_ye.py.) -/
namespace Go.Proofs.YtdgojpjmhalilaaGreatDoor
open Go.RowKit

set_option maxHeartbeats 4000000 in
theorem ofNode_num {B : Nat} {l : List Sp} {v : Value} (k : Int) (w : World) (h : SL B w v l) (hk : k = 3 ∨ k = 5 ∨ k = 6 ∨ k = 7) :
    Calls Tryz.prog 25 #[.int .i64 k, v] w fun e w' => e = .returned (.tuple #[shn 0 3, .bool (allB l 3)]) ∧ Below w.heap.size w w' := by
  have IO := hide (fun wx (hb : Below w.heap.size w wx) => allMayBe_any 3 wx (h.keep hb))
  obtain ⟨_, a, cap, rfl, _⟩ := h
  generalize allB l 3 = q at *
  generalize l.length = n at *
  rcases hk with rfl | rfl | rfl | rfl
  all_goals
    go_enter Tryz.func25, Tryz.ntmps25
    go_wp2_with fail
    refine (plain_any _ _).mono ?_
    rintro e w1 ⟨rfl, hb⟩
    have X1 := (Bx2.new w 47 (.int .i64 0) (.int .i64 0)).keep hb (by simp)
    have HB := hide (below_via ((Below.refl _ _).alloc (Nat.le_refl _) _) hb)
    have HX := hide X1
    clear hb X1
    go_wp2_with fail
    refine (unhide IO _ (unhide HB)).mono ?_
    rintro e w2 ⟨rfl, hb⟩
    have X2 := (unhide HX).keep hb (unhide HX).low
    have HW := hide (below_via (unhide HB) hb)
    have x0 := X2.at0
    have x1 := X2.at1
    have t0 := X2.th0
    have t1 := X2.th1
    have lx := X2.low
    clear hb X2 HX HB
    go_wp2
    refine bodyPost_ret (v := .tuple #[shn 0 3, .bool q]) (by simp [results, Tryz.results25, go_sem, x0, x1]) rfl ⟨rfl, ?_⟩
    exact ((unhide HW).setCell (by simp) _).setCell (by simp) _

set_option maxHeartbeats 4000000 in
theorem ofNode_ord {B : Nat} {l : List Sp} {v : Value} (k : Int) (w : World) (h : SL B w v l) (hk : k = 10 ∨ k = 11 ∨ k = 12 ∨ k = 13) :
    Calls Tryz.prog 25 #[.int .i64 k, v] w fun e w' => e = .returned (.tuple #[shn 0 2, .bool (ordB l)]) ∧ Below w.heap.size w w' := by
  have IO := hide (fun wx (hb : Below w.heap.size w wx) => inOrder_any wx (h.keep hb))
  obtain ⟨_, a, cap, rfl, _⟩ := h
  generalize ordB l = q at *
  generalize l.length = n at *
  rcases hk with rfl | rfl | rfl | rfl
  all_goals
    go_enter Tryz.func25, Tryz.ntmps25
    go_wp2_with fail
    refine (plain_any _ _).mono ?_
    rintro e w1 ⟨rfl, hb⟩
    have X1 := (Bx2.new w 47 (.int .i64 0) (.int .i64 0)).keep hb (by simp)
    have HB := hide (below_via ((Below.refl _ _).alloc (Nat.le_refl _) _) hb)
    have HX := hide X1
    clear hb X1
    go_wp2_with fail
    refine (unhide IO _ (unhide HB)).mono ?_
    rintro e w2 ⟨rfl, hb⟩
    have X2 := (unhide HX).keep hb (unhide HX).low
    have HW := hide (below_via (unhide HB) hb)
    have x0 := X2.at0
    have x1 := X2.at1
    have t0 := X2.th0
    have t1 := X2.th1
    have lx := X2.low
    clear hb X2 HX HB
    go_wp2
    refine bodyPost_ret (v := .tuple #[shn 0 2, .bool q]) (by simp [results, Tryz.results25, go_sem, x0, x1]) rfl ⟨rfl, ?_⟩
    exact ((unhide HW).setCell (by simp) _).setCell (by simp) _

set_option maxHeartbeats 4000000 in
theorem ofNode_bool {B : Nat} {l : List Sp} {v : Value} (k : Int) (w : World) (h : SL B w v l) (hk : k = 15 ∨ k = 16) :
    Calls Tryz.prog 25 #[.int .i64 k, v] w fun e w' => e = .returned (.tuple #[shn 0 2, .bool (allB l 2)]) ∧ Below w.heap.size w w' := by
  have IO := hide (fun wx (hb : Below w.heap.size w wx) => allMayBe_any 2 wx (h.keep hb))
  obtain ⟨_, a, cap, rfl, _⟩ := h
  generalize allB l 2 = q at *
  generalize l.length = n at *
  rcases hk with rfl | rfl
  all_goals
    go_enter Tryz.func25, Tryz.ntmps25
    go_wp2_with fail
    refine (plain_any _ _).mono ?_
    rintro e w1 ⟨rfl, hb⟩
    have X1 := (Bx2.new w 47 (.int .i64 0) (.int .i64 0)).keep hb (by simp)
    have HB := hide (below_via ((Below.refl _ _).alloc (Nat.le_refl _) _) hb)
    have HX := hide X1
    clear hb X1
    go_wp2_with fail
    refine (unhide IO _ (unhide HB)).mono ?_
    rintro e w2 ⟨rfl, hb⟩
    have X2 := (unhide HX).keep hb (unhide HX).low
    have HW := hide (below_via (unhide HB) hb)
    have x0 := X2.at0
    have x1 := X2.at1
    have t0 := X2.th0
    have t1 := X2.th1
    have lx := X2.low
    clear hb X2 HX HB
    go_wp2
    refine bodyPost_ret (v := .tuple #[shn 0 2, .bool q]) (by simp [results, Tryz.results25, go_sem, x0, x1]) rfl ⟨rfl, ?_⟩
    exact ((unhide HW).setCell (by simp) _).setCell (by simp) _

set_option maxHeartbeats 4000000 in
theorem ofNode_add {B : Nat} {v : Value} (a b : Sp) (w : World) (h : SL B w v [a, b]) :
    Calls Tryz.prog 25 #[.int .i64 4, v] w fun e w' => e = .returned (.tuple #[sh (addF a b).1, .bool (addF a b).2]) ∧ Below w.heap.size w w' := by
  have IO := hide (fun wx (hb : Below w.heap.size w wx) => ofAdd_any a b wx (h.keep hb))
  obtain ⟨_, c, cap, rfl, _⟩ := h
  generalize addF a b = q at *
  obtain ⟨q1, q2⟩ := q
  simp only at IO ⊢
  have HB := hide ((Below.refl w.heap.size w).alloc (Nat.le_refl _) (.cells #[.int .i64 0, .int .i64 0] 47))
  have HX := hide (Bx2.new w 47 (.int .i64 0) (.int .i64 0))
  go_enter Tryz.func25, Tryz.ntmps25
  go_wp2_with fail
  refine (unhide IO _ (unhide HB)).mono ?_
  rintro e w2 ⟨rfl, hb⟩
  have X2 := (unhide HX).keep hb (unhide HX).low
  have HW := hide (below_via (unhide HB) hb)
  have x0 := X2.at0
  have x1 := X2.at1
  have t0 := X2.th0
  have t1 := X2.th1
  have lx := X2.low
  clear hb X2 HX HB
  go_wp2
  refine bodyPost_ret (v := .tuple #[sh q1, .bool q2]) (by simp [results, Tryz.results25, go_sem, x0, x1]) rfl ⟨rfl, ?_⟩
  exact ((unhide HW).setCell (by simp) _).setCell (by simp) _

set_option maxHeartbeats 4000000 in
theorem ofNode_list {B : Nat} {l : List Sp} {v : Value} (w : World) (h : SL B w v l) (hn : ∀ a ∈ l, a.n ≤ 99999) :
    Calls Tryz.prog 25 #[.int .i64 19, v] w fun e w' => e = .returned (.tuple #[sh (joinL l).listed, .bool true]) ∧ Below w.heap.size w w' := by
  have IO := hide (fun wx (hb : Below w.heap.size w wx) => joined_any wx (h.keep hb) (fun a ha => Nat.le_trans (hn a ha) (by omega)))
  have hj : (joinL l).n ≤ 100000 := Nat.le_trans (joinA_bd l ⟨0, 1⟩ (Nat.zero_le 99999) hn) (by omega)
  have LI := hide (fun wx => listed_any (joinL l) wx hj)
  obtain ⟨_, c, cap, rfl, _⟩ := h
  generalize (joinL l).listed = q at *
  generalize joinL l = p at *
  generalize l.length = n at *
  have HB := hide ((Below.refl w.heap.size w).alloc (Nat.le_refl _) (.cells #[.int .i64 0, .int .i64 0] 47))
  have HX := hide (Bx2.new w 47 (.int .i64 0) (.int .i64 0))
  clear hn hj
  go_enter Tryz.func25, Tryz.ntmps25
  go_wp2_with fail
  refine (unhide IO _ (unhide HB)).mono ?_
  rintro e w1 ⟨rfl, hb1⟩
  have HX1 := hide ((unhide HX).keep hb1 (unhide HX).low)
  have HB1 := hide (below_via (unhide HB) hb1)
  clear hb1 HX HB
  go_wp2_with fail
  refine (unhide LI _).mono ?_
  rintro e w2 ⟨rfl, hb⟩
  have X2 := (unhide HX1).keep hb (unhide HX1).low
  have HW := hide (below_via (unhide HB1) hb)
  have x0 := X2.at0
  have x1 := X2.at1
  have t0 := X2.th0
  have t1 := X2.th1
  have lx := X2.low
  clear hb X2 HX1 HB1
  go_wp2
  refine bodyPost_ret (v := .tuple #[sh q, .bool true]) (by simp [results, Tryz.results25, go_sem, x0, x1]) rfl ⟨rfl, ?_⟩
  exact ((unhide HW).setCell (by simp) _).setCell (by simp) _
end Go.Proofs.YtdgojpjmhalilaaGreatDoor

/- Walks: ofNode, regions that draw. (Written by gen_ye.py.) -/
namespace Go.Proofs.YtdgojpjmhalilaaGreatDoor
open Go.RowKit

set_option maxHeartbeats 8000000 in
theorem ofNode_eq {B : Nat} {v : Value} (k : Int) (a b : Sp) (w : World) (h : SL B w v [a, b]) (hk : k = 8 ∨ k = 9) (ha : a.n ≤ 100000) (hb : b.n ≤ 100000) :
    Calls Tryz.prog 25 #[.int .i64 k, v] w fun e w' => e = .returned (.tuple #[shn 0 2, .bool (a.meetB b)]) ∧ Below w.heap.size w w' := by
  obtain ⟨g, off, cap, rfl, hg, hl, c0, c1⟩ := h.at (i := 0) rfl
  obtain ⟨g1, off1, cap1, hv, _, _, c2, c3⟩ := h.at (i := 1) rfl
  simp only [Value.slice.injEq, Option.some.injEq, Addr.mk.injEq, and_true, true_and] at hv
  obtain ⟨⟨rfl, rfl⟩, rfl⟩ := hv
  clear h hl
  simp only [Nat.zero_mul, Nat.add_zero, Nat.one_mul] at c0 c1 c2 c3
  have MM := hide (fun wx => mayMeet_any a b wx ha hb)
  generalize a.meetB b = q at *
  show Calls Tryz.prog 25 #[.int .i64 k, .slice (some ⟨g, off, none⟩) 2 cap] w _
  clear ha hb
  rcases hk with rfl | rfl
  all_goals
    go_enter Tryz.func25, Tryz.ntmps25
    go_wp2_with fail
    have X0 := Bx2.new w 47 (.int .i64 0) (.int .i64 0)
    have B0 := (Below.refl w.heap.size w).alloc (Nat.le_refl _) (.cells #[.int .i64 0, .int .i64 0] 47)
    have c00 := (B0.cell (p := ⟨g, off, none⟩) hg).trans c0
    have hg0 := Nat.lt_of_lt_of_le hg B0.size
    have c10 := (B0.cell (p := ⟨g, off + 1, none⟩) hg).trans c1
    have c20 := (B0.cell (p := ⟨g, off + 2, none⟩) hg).trans c2
    have c30 := (B0.cell (p := ⟨g, off + 2 + 1, none⟩) hg).trans c3
    generalize w.alloc (.cells #[.int .i64 0, .int .i64 0] 47) = w0 at *
    have KP : Hid (∀ wx, Below w0.heap.size w0 wx → wx.cell? ⟨g, off, none⟩ = some (.int .i64 (a.n : Int)) ∧ wx.cell? ⟨g, off + 1, none⟩ = some (.int .i64 a.k) ∧ wx.cell? ⟨g, off + 2, none⟩ = some (.int .i64 (b.n : Int)) ∧ wx.cell? ⟨g, off + 2 + 1, none⟩ = some (.int .i64 b.k) ∧ wx.cell? ⟨w.heap.size, 0, none⟩ = some (.int .i64 0) ∧ wx.cell? ⟨w.heap.size, 1, none⟩ = some (.int .i64 0) ∧ wx.frozen? ⟨w.heap.size, 0, none⟩ = false ∧ wx.frozen? ⟨w.heap.size, 1, none⟩ = false ∧ w.heap.size < wx.heap.size) := hide (fun wx hb => ⟨(hb.cell (p := ⟨g, off, none⟩) hg0).trans c00, (hb.cell (p := ⟨g, off + 1, none⟩) hg0).trans c10, (hb.cell (p := ⟨g, off + 2, none⟩) hg0).trans c20, (hb.cell (p := ⟨g, off + 2 + 1, none⟩) hg0).trans c30, (X0.keep hb X0.low).at0, (X0.keep hb X0.low).at1, (X0.keep hb X0.low).th0, (X0.keep hb X0.low).th1, (X0.keep hb X0.low).low⟩)
    have HB := hide B0
    obtain ⟨c0, c1, c2, c3, x0, x1, t0, t1, lx⟩ := unhide KP w0 (Below.refl _ _)
    clear c00 c10 c20 c30 X0 B0 hg hg0
  all_goals
    first
    | go_region_with (first
      | (go_at_call 40; refine (plain_any _ _).mono ?_; rintro e w1 ⟨rfl, hb⟩; replace hb : Below w0.heap.size w0 w1 := below_via (by repeat (first | assumption | exact Below.refl _ _ | apply Below.drew)) hb; obtain ⟨c0, c1, c2, c3, x0, x1, t0, t1, lx⟩ := unhide KP _ hb)
      | (go_at_call 48; refine (unhide MM _).mono ?_; rintro e w1 ⟨rfl, hb⟩; replace hb : Below w0.heap.size w0 w1 := below_via (by repeat (first | assumption | exact Below.refl _ _ | apply Below.drew)) hb; obtain ⟨c0, c1, c2, c3, x0, x1, t0, t1, lx⟩ := unhide KP _ hb))
    | fail
  all_goals
    have HW := hide (below_via (unhide HB) hb)
    clear hb
    go_wp2
    refine bodyPost_ret (v := .tuple #[shn 0 2, .bool (q)]) (by simp [results, Tryz.results25, go_sem, x0, x1]) rfl ⟨by simp, ?_⟩
    repeat (first | exact unhide HW | apply Below.drew | refine Below.setCell ?_ (by simp) _)

end Go.Proofs.YtdgojpjmhalilaaGreatDoor

/- A region that draws its order and stores a shape (as stage 8's SR, SQ, without tests). -/
namespace Go.Proofs.YtdgojpjmhalilaaGreatDoor
open Go.RowKit

def Ds.isL : Ds → Value → Prop
  | .lit v, x => x = v
  | .mem _ _, _ => True
  | .any, _ => True
def OkS (g : Bool) (l : List Ds) (i : Nat) (v : Value) (w : World) : Prop := if g = true then ((l[i]?).getD .any).isL v else OkL l i v w
theorem oks_lit {g : Bool} {l : List Ds} {i : Nat} {v u : Value} {w : World} (h : OkS g l i v w) (hl : (l[i]?).getD .any = .lit u) : v = u := by
  unfold OkS at h
  split at h
  · rw [hl] at h; exact h
  · unfold OkL at h
    rw [hl] at h; exact h
theorem oks_mem {g : Bool} {l : List Ds} {i : Nat} {v : Value} {w : World} (h : OkS g l i v w) (hg : g = false) : OkL l i v w := by
  unfold OkS at h
  rw [hg] at h
  exact h
theorem oks_of {g : Bool} {l : List Ds} {i : Nat} {u : Value} {w : World} (hl : (l[i]?).getD .any = .lit u) : OkS g l i u w := by
  unfold OkS
  split
  · rw [hl]; exact rfl
  · unfold OkL
    rw [hl]; exact rfl

structure RS (w0 : World) (a0 : Act) (N : Nat) (D : List Nat) (gi : Nat) (Fin : World → Prop) (l : List Ds) (L : Nat → Bool) (a : Act) (w : World) : Prop where
  size : a.tmps.size = N
  defs : a.defers = []
  rest : ∀ j, (∀ i d, L i = true → D[i]? = some d → d ≠ j) → G a j = G a0 j
  got : ∀ i d, L i = true → D[i]? = some d → OkS (L gi) l i (G a d) w
  old : L gi = false → Below w0.heap.size w0 w
  fin : L gi = true → Fin w
section
variable {w0 w w' : World} {a0 a a' : Act} {N gi : Nat} {D : List Nat} {Fin : World → Prop} {l : List Ds} {L : Nat → Bool} {ops : Array Oper} {Q : Exit → Act → World → Prop} {i d : Nat} {o : Oper}
theorem RS.keep (h : RS w0 a0 N D gi Fin l L a w) {s : Nat} (hs : s ∉ D) : G a s = G a0 s :=
  h.rest s (fun _ _ _ hd e => hs (e ▸ List.mem_of_getElem? hd))
theorem RS.start (h1 : a0.tmps.size = N) (h2 : a0.defers = []) (h3 : Below w0.heap.size w0 w) : RS w0 a0 N D gi Fin l (fun _ => false) a0 w :=
  ⟨h1, h2, fun _ _ => rfl, fun _ _ h => (by cases h), fun _ => h3, fun h => (by cases h)⟩
theorem nodupS_at (nd : D.Nodup) {j : Nat} (hi : D[i]? = some d) (hj : D[j]? = some d) : j = i := by
  obtain ⟨l1, e1⟩ := List.getElem?_eq_some_iff.1 hi
  obtain ⟨l2, e2⟩ := List.getElem?_eq_some_iff.1 hj
  exact (List.getElem_inj nd).1 (e2.trans e1.symm)
theorem RS.step (h : RS w0 a0 N D gi Fin l L a w) (nd : D.Nodup) (i : Nat) {d : Nat} {v : Value} (hi : D[i]? = some d) (ne : gi ≠ i) (U : Upd a d v a') (hd : a'.defers = a.defers) (hw : w' = w ∨ (L gi = false ∧ Below w.heap.size w w')) (ok : OkS (L gi) l i v w') :
    RS w0 a0 N D gi Fin l (fun j => j == i || L j) a' w' := by
  have eg : (gi == i || L gi) = L gi := by simp [ne]
  refine ⟨U.size.trans h.size, hd.trans h.defs, fun j hj => ?_, fun j e hj he => ?_, fun hg => ?_, fun hg => ?_⟩
  · have hne : j ≠ d := fun e => hj i d (by simp) hi e.symm
    rw [U.rest j hne]
    exact h.rest j (fun i' d' hi' hd' => hj i' d' (by simp [hi']) hd')
  · show OkS (gi == i || L gi) l j (G a' e) w'
    rw [eg]
    by_cases e1 : j = i
    · subst e1
      rw [hi] at he
      cases he
      rw [U.got]
      exact ok
    · have hL : L j = true := by simpa [e1] using hj
      have hne : e ≠ d := fun q => e1 (nodupS_at nd hi (q ▸ he))
      rw [U.rest e hne]
      have g := h.got j e hL he
      rcases hw with rfl | ⟨hg, hb⟩
      · exact g
      · unfold OkS at *
        rw [hg] at g ⊢
        exact OkL.mono l j _ _ _ hb g
  · have hg' : L gi = false := by rw [← eg]; exact hg
    rcases hw with rfl | ⟨_, hb⟩
    · exact h.old hg'
    · exact (h.old hg').trans (hb.mono (h.old hg').size)
  · have hg' : L gi = true := by rw [← eg]; exact hg
    rcases hw with rfl | ⟨hq, _⟩
    · exact h.fin hg'
    · rw [hg'] at hq; cases hq
theorem RS.lastS (h : RS w0 a0 N D gi Fin l L a w) (hi : D[gi]? = none) (hg : L gi = false) (fin : Fin w') :
    RS w0 a0 N D gi Fin l (fun j => j == gi || L j) a w' := by
  refine ⟨h.size, h.defs, fun j hj => h.rest j (fun i' d' hi' hd' => hj i' d' (by simp [hi']) hd'), fun j e hj he => ?_, fun hq => ?_, fun _ => fin⟩
  · show OkS (gi == gi || L gi) l j (G a e) w'
    unfold OkS
    rw [if_pos (by simp)]
    have e1 : j ≠ gi := fun q => by subst q; rw [hi] at he; cases he
    have hL : L j = true := by simpa [e1] using hj
    have g := oks_mem (h.got j e hL he) hg
    unfold OkL at g
    generalize (l[j]?).getD .any = x at g ⊢
    cases x with
    | lit u => exact g
    | mem P k => trivial
    | any => trivial
  · simp at hq
theorem rs_val (h : RS w0 a0 N D gi Fin l L a w) (nd : D.Nodup) (hi : ops[i]? = some o) (hd : o.dst = some d) (hDi : D[i]? = some d) (hN : d < N) (ne : gi ≠ i) (hw : Region.wanted o (yielded ops a.tmps) = true) {v : Value} (r : (execOp a.eval o).run Tryz.prog w = .ok (.value v) w) (hl : (l[i]?).getD .any = .lit v) :
    wpOp Tryz.prog ops Q i (fun a' w' => RS w0 a0 N D gi Fin l (fun j => j == i || L j) a' w') a w :=
  o_val hi hd hw (by rw [h.size]; exact hN) r fun _ U hf => h.step nd i hDi ne U hf (.inl rfl) (oks_of hl)
theorem rs_call (h : RS w0 a0 N D gi Fin l L a w) (nd : D.Nodup) (hi : ops[i]? = some o) (hd : o.dst = some d) (hDi : D[i]? = some d) (hN : d < N) (ne : gi ≠ i) (hg : L gi = false) (hw : Region.wanted o (yielded ops a.tmps) = true) {n : Nat} {args : Array Value} (r : (execOp a.eval o).run Tryz.prog w = .ok (.enter n args) w)
    {R : Value → World → Prop} (hc : Calls Tryz.prog n args w fun e w' => ∃ v, e = .returned v ∧ R v w' ∧ Below w.heap.size w w') (ok : ∀ v w', R v w' → OkL l i v w') :
    wpOp Tryz.prog ops Q i (fun a' w' => RS w0 a0 N D gi Fin l (fun j => j == i || L j) a' w') a w :=
  o_enter (R := fun v w' => R v w' ∧ Below w.heap.size w w') hi hd hw (by rw [h.size]; exact hN) r hc fun v _ w' hR U hf => h.step nd i hDi ne U hf (.inr ⟨hg, hR.2⟩) (by unfold OkS; rw [hg]; exact ok v w' hR.1)
end

section
variable {w0 w w' : World} {a0 a a' : Act} {N gi : Nat} {D : List Nat} {Fin : World → Prop} {l : List Ds} {L : Nat → Bool} {ops : Array Oper} {Q : Exit → Act → World → Prop} {i d : Nat} {o : Oper}
theorem RS.lastA (h : RS w0 a0 N D gi Fin l L a w) (hi : (l[gi]?).getD .any = .any) (hg : L gi = false) (fin : Fin w') :
    RS w0 a0 N D gi Fin l (fun j => j == gi || L j) a w' := by
  refine ⟨h.size, h.defs, fun j hj => h.rest j (fun i' d' hi' hd' => hj i' d' (by simp [hi']) hd'), fun j e hj he => ?_, fun hq => ?_, fun _ => fin⟩
  · show OkS (gi == gi || L gi) l j (G a e) w'
    unfold OkS
    rw [if_pos (by simp)]
    by_cases e1 : j = gi
    · subst e1
      rw [hi]
      trivial
    have hL : L j = true := by simpa [e1] using hj
    have g := oks_mem (h.got j e hL he) hg
    unfold OkL at g
    generalize (l[j]?).getD .any = x at g ⊢
    cases x with
    | lit u => exact g
    | mem P k => trivial
    | any => trivial
  · simp at hq
theorem rs_skip (h : RS w0 a0 N D gi Fin l L a w) (nd : D.Nodup) (hi : ops[i]? = some o) (hd : o.dst = some d) (hDi : D[i]? = some d) (hN : d < N) (ne : gi ≠ i) (hw : Region.wanted o (yielded ops a.tmps) = false) (hl : (l[i]?).getD .any = .any) :
    wpOp Tryz.prog ops Q i (fun a' w' => RS w0 a0 N D gi Fin l (fun j => j == i || L j) a' w') a w :=
  o_skip hi hd hw (by rw [h.size]; exact hN) fun _ U hf => h.step nd i hDi ne U hf (.inl rfl) (by
    unfold OkS
    split
    · rw [hl]; trivial
    · unfold OkL; rw [hl]; trivial)
end

abbrev put2 (w : World) (b : Nat) (u v : Value) : World := (w.setCell ⟨b, 0, none⟩ u).setCell ⟨b, 1, none⟩ v
section
variable {ops : Array Oper} {Q : Exit → Act → World → Prop} {i : Nat} {K : Act → World → Prop} {a : Act} {w : World} {t : TypeId} {p : String} {af : Array Edge}
theorem os_store2 {s x b : Nat} {n k : Int} {u v : Value} (hi : ops[i]? = some ⟨none, .store 47 (.tmp s) (.tmp x), t, p, af, none⟩) (g0 : G a s = .pointer (some ⟨b, 0, none⟩)) (g1 : G a x = shn n k) (B : Bx2 w b u v)
    (h : K a (put2 w b (.int .i64 n) (.int .i64 k))) : wpOp Tryz.prog ops Q i K a w := by
  have r : (execOp a.eval ⟨none, .store 47 (.tmp s) (.tmp x), t, p, af, none⟩).run Tryz.prog w = .ok .skip (put2 w b (.int .i64 n) (.int .i64 k)) := by
    have c0 := B.at0
    have c1 := B.at1
    have f0 := B.th0
    have f1 := B.th1
    have e0 := eval_G g0
    have e1 := eval_G g1
    generalize a.eval = E at e0 e1 ⊢
    simp [go_sem, e0, e1, c0, c1, f0, f1]
  unfold wpOp
  rw [hi]
  simp only [Region.wanted, if_true]
  left
  unfold Oper.wp
  rw [r]
  exact h
end

section
variable {w0 w w' : World} {a0 a a' : Act} {N gi : Nat} {D : List Nat} {Fin : World → Prop} {l : List Ds} {L : Nat → Bool} {ops : Array Oper} {Q : Exit → Act → World → Prop}
theorem rs_store2 {t : TypeId} {p : String} {af : Array Edge} {s x b : Nat} {n k : Int} {u v : Value} (h : RS w0 a0 N D gi Fin l L a w) (hn : (l[gi]?).getD .any = .any) (hg : L gi = false) (hi : ops[gi]? = some ⟨none, .store 47 (.tmp s) (.tmp x), t, p, af, none⟩) (g0 : G a s = .pointer (some ⟨b, 0, none⟩)) (g1 : G a x = shn n k)
    (B : Bx2 w b u v) (fin : Fin (put2 w b (.int .i64 n) (.int .i64 k))) :
    wpOp Tryz.prog ops Q gi (fun a' w' => RS w0 a0 N D gi Fin l (fun j => j == gi || L j) a' w') a w :=
  os_store2 hi g0 g1 B (h.lastA hn hg fin)
end

section
variable {a : Act} {w : World} {d : Option Nat} {t : TypeId} {p : String} {af : Array Edge} {g : Option (Nat × Bool)}
theorem run_ixS {x y : Operand} {b off n cap : Nat} {i : Nat} (h : a.eval x = .slice (some ⟨b, off, none⟩) n cap) (hy : a.eval y = .int .i64 (i : Int)) (hi : (i : Int) < (n : Int)) :
    (execOp a.eval ⟨d, .indexAddr 64 x y, t, p, af, g⟩).run Tryz.prog w = .ok (.value (.pointer (some ⟨b, off + i * 2, none⟩))) w := by
  generalize a.eval = E at h hy ⊢
  have h0 : (0 : Int) ≤ (i : Int) := by omega
  simp [go_sem, h, hy, hi, h0]
theorem run_ldS {x : Operand} {b o : Nat} {u v : Value} (h : a.eval x = .pointer (some ⟨b, o, none⟩)) (c0 : w.cell? ⟨b, o, none⟩ = some u) (c1 : w.cell? ⟨b, o + 1, none⟩ = some v) :
    (execOp a.eval ⟨d, .load 47 x, t, p, af, g⟩).run Tryz.prog w = .ok (.value (.agg #[u, v])) w := by
  generalize a.eval = E at h ⊢
  simp [go_sem, h, c0, c1]
end
theorem callPlain (zs : Array Value) (w : World) : Sem.run Tryz.prog (callFunc 40 zs) w = .ok (.enter 40 zs) w := by simp [go_sem]
theorem callMayBe (zs : Array Value) (w : World) : Sem.run Tryz.prog (callFunc 42 zs) w = .ok (.enter 42 zs) w := by simp [go_sem]
theorem callElem (zs : Array Value) (w : World) : Sem.run Tryz.prog (callFunc 44 zs) w = .ok (.enter 44 zs) w := by simp [go_sem]
theorem callMeet (zs : Array Value) (w : World) : Sem.run Tryz.prog (callFunc 48 zs) w = .ok (.enter 48 zs) w := by simp [go_sem]
theorem xr2 {n : Nat} {args : Array Value} {w : World} {v : Value} (h : Calls Tryz.prog n args w fun e w' => e = .returned v ∧ Below w.heap.size w w') : Calls Tryz.prog n args w fun e w' => ∃ u, e = .returned u ∧ u = v ∧ Below w.heap.size w w' :=
  h.mono fun _ _ q => ⟨v, q.1, rfl, q.2⟩
end Go.Proofs.YtdgojpjmhalilaaGreatDoor
