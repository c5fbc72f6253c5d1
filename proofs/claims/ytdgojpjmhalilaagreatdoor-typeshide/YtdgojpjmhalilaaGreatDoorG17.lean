/- Walks: a function asked. (Written by gen_ye.py.) -/
import Derived.Test.YtdgojpjmhalilaaGreatDoorG16
import Derived.Test.YtdgojpjmhalilaaGreatDoorG06
namespace Go.Proofs.YtdgojpjmhalilaaGreatDoor
open Go.RowKit

/-- what a function takes, in memory -/
def TkV (lo : Nat) (w : World) (tk : List Int) (b : Nat) : Prop := lo ≤ b ∧ b < w.heap.size ∧ ∀ i k, tk[i]? = some k → w.cell? ⟨b, i, none⟩ = some (.int .i64 k)
theorem goes_step {tk : List Int} {l : List Sp} {m : Nat} {k : Int} {a : Sp} (hk : tk[m]? = some k) (ha : l[m]? = some a) : goesB (tk.drop m) (l.drop m) = ((k == 0 || a.mayB k) && goesB (tk.drop (m + 1)) (l.drop (m + 1))) := by rw [drop_at hk, drop_at ha]; rfl
def ofR (g : Bool) (r : Sp × Bool) : Sp × Bool := if g then r else (⟨0, 0⟩, false)

set_option maxHeartbeats 8000000 in
theorem of_always {B : Nat} {l : List Sp} {kv : Value} (c : Nat) (tk : List Int) (bt cap : Nat) (w : World) (hT : TkV 0 w tk bt) (h : SL B w kv l) (hl : tk.length = l.length) (r : Sp × Bool)
    (TC : ∀ wx, Below w.heap.size w wx → Calls Tryz.prog 62 #[kv, .pointer (some ⟨c, 0, none⟩)] wx fun e w' => e = .returned (.tuple #[sh r.1, .bool r.2]) ∧ Below wx.heap.size wx w') :
    Calls Tryz.prog 41 #[.agg #[.slice (some ⟨bt, 0, none⟩) tk.length cap, .func (.func 62) #[] #[.pointer (some ⟨c, 0, none⟩)]], kv] w fun e w' => e = .returned (.tuple #[sh (ofR (goesB tk l) r).1, .bool (ofR (goesB tk l) r).2]) ∧ Below w.heap.size w w' := by
  obtain ⟨r1, r2⟩ := r
  simp only at TC
  obtain ⟨hlen, a, kcap, rfl, hk⟩ := h
  have HK := hide hk
  have HT := hide hT
  have HC := hide TC
  have X0 := (Bx2.new w 99 (.slice (some ⟨bt, 0, none⟩) tk.length cap) (.func (.func 62) #[] #[.pointer (some ⟨c, 0, none⟩)])).keep ((Below.refl _ _).alloc (Nat.le_refl _) (.cells #[.int .i64 0, .int .i64 0] 47)) (by simp)
  have Y0 := Bx2.new (w.alloc (.cells #[.slice (some ⟨bt, 0, none⟩) tk.length cap, .func (.func 62) #[] #[.pointer (some ⟨c, 0, none⟩)]] 99)) 47 (.int .i64 0) (.int .i64 0)
  rw [World.size_alloc] at Y0
  have B0 := below2 w (.cells #[.slice (some ⟨bt, 0, none⟩) tk.length cap, .func (.func 62) #[] #[.pointer (some ⟨c, 0, none⟩)]] 99) (.cells #[.int .i64 0, .int .i64 0] 47)
  have HX := hide X0
  have HY := hide Y0
  have HB := hide B0
  have hlt63 : tk.length ≤ 1000000 := by omega
  have HL := hide hl
  clear X0 Y0 B0 hk hT TC hl
  go_enter Tryz.func41, Tryz.ntmps41
  go_wp2
  go_loopw [11] (fun i wr => ∃ m : Nat, m ≤ tk.length ∧ i = .int .i64 (m : Int) ∧ Hid (goesB tk l = goesB (tk.drop m) (l.drop m)) ∧ Hid (Bx2 wr w.heap.size (.slice (some ⟨bt, 0, none⟩) tk.length cap) (.func (.func 62) #[] #[.pointer (some ⟨c, 0, none⟩)])) ∧ Hid (Bx2 wr (w.heap.size + 1) (.int .i64 0) (.int .i64 0)) ∧ Hid (Below w.heap.size w wr)) (fun i _ => tk.length - (intOf i).toNat)
  case atStart => exact ⟨0, Nat.zero_le _, rfl, hide rfl, HX, HY, HB⟩
  case round =>
    obtain ⟨m, hml, rfl, H, HX1, HY1, HB1⟩ := hrel
    clear HX HY HB
    by_cases hlt : m < tk.length
    · have hi1 : (m : Int) < (tk.length : Int) := by omega
      have hi2 : (m : Int) < (l.length : Int) := by have := unhide HL; omega
      have hlt2 : m < l.length := by omega
      obtain ⟨k, hku⟩ : ∃ k, tk[m]? = some k := ⟨_, List.getElem?_eq_getElem hlt⟩
      obtain ⟨u, hu⟩ : ∃ u, l[m]? = some u := ⟨_, List.getElem?_eq_getElem hlt2⟩
      have E := hide ((unhide H).trans (goes_step hku hu))
      obtain ⟨g, off, rfl, hB, hg, hc⟩ := unhide HK (by intro e; subst e; simp at hlt2)
      have c0 := ((unhide HB1).cell (p := ⟨g, off + m * 2, none⟩) hg).trans (hc m u hu).1
      have c1 := ((unhide HB1).cell (p := ⟨g, off + m * 2 + 1, none⟩) hg).trans (hc m u hu).2
      have d0 := ((unhide HB1).cell (p := ⟨bt, m, none⟩) (unhide HT).2.1).trans ((unhide HT).2.2 m k hku)
      have MB := hide (fun wx => mayBe_any u k wx)
      have HF : Hid (goesB tk l = false → ofR (goesB tk l) (r1, r2) = (⟨0, 0⟩, false)) := hide (fun q => by rw [q]; rfl)
      generalize u.mayB k = q at *
      clear hc hu hku HK H HC
      by_cases hk0 : k = 0
      · subst hk0
        clear MB
        go_wp2
        go_roundw
        case rel => exact ⟨m + 1, by omega, by go_num, hide ((unhide E).trans (by simp)), HX1, HY1, HB1⟩
        case measure => simp [intOf]; omega
      · have hk1 : (k != 0) = true := by simpa using hk0
        have hk2 : (k == 0) = false := by simpa using hk0
        rw [hk2] at E
        go_wp2_with fail
        refine (unhide MB _).mono ?_
        rintro e w2 ⟨rfl, hb2⟩
        have HX2 := hide ((unhide HX1).keep hb2 (unhide HX1).low)
        have HY2 := hide ((unhide HY1).keep hb2 (unhide HY1).low)
        have HB2 := hide (below_via (unhide HB1) hb2)
        clear hb2 MB c0 c1 d0 HX1 HY1 HB1 hk2 hk0
        cases q
        · have EF := hide (unhide HF ((unhide E).trans (by simp)))
          have x0 := (unhide HY2).at0
          have x1 := (unhide HY2).at1
          have t0 := (unhide HY2).th0
          have t1 := (unhide HY2).th1
          have lx := (unhide HY2).low
          clear HX2 HY2 HF E
          go_wp2
          refine bodyPost_ret (v := .tuple #[shn 0 0, .bool false]) (by simp [results, Tryz.results41, go_sem, x0, x1]) rfl ⟨by rw [unhide EF]; rfl, ?_⟩
          exact ((unhide HB2).setCell (by simp) _).setCell (by simp) _
        · go_wp2
          go_roundw
          case rel => exact ⟨m + 1, by omega, by go_num, hide ((unhide E).trans (by simp)), HX2, HY2, HB2⟩
          case measure => simp [intOf]; omega
    · obtain rfl : m = tk.length := by omega
      have E : Hid (ofR (goesB tk l) (r1, r2) = (r1, r2)) := hide (by rw [unhide H, List.drop_length]; simp [goesB, ofR])
      have C1 := hide (unhide HC _ (unhide HB1))
      have y0 := (unhide HX1).at0
      have y1 := (unhide HX1).at1
      clear H HK HC HT
      go_wp2_with fail
      refine (unhide C1).mono ?_
      rintro e w2 ⟨rfl, hb2⟩
      have Y2 := (unhide HY1).keep hb2 (unhide HY1).low
      have HB2 := hide (below_via (unhide HB1) hb2)
      have x0 := Y2.at0
      have x1 := Y2.at1
      have t0 := Y2.th0
      have t1 := Y2.th1
      have lx := Y2.low
      clear hb2 Y2 HX1 HY1 HB1 C1 y0 y1
      go_wp2
      refine bodyPost_ret (v := .tuple #[sh r1, .bool r2]) (by simp [results, Tryz.results41, go_sem, x0, x1]) rfl ⟨by rw [unhide E], ?_⟩
      exact ((unhide HB2).setCell (by simp) _).setCell (by simp) _

set_option maxHeartbeats 8000000 in
theorem of_elem {B : Nat} {l : List Sp} {kv : Value} (tk : List Int) (bt cap : Nat) (w : World) (hT : TkV 0 w tk bt) (h : SL B w kv l) (hl : tk.length = l.length) (r : Sp × Bool)
    (TC : ∀ wx, Below w.heap.size w wx → Calls Tryz.prog 36 #[kv] wx fun e w' => e = .returned (.tuple #[sh r.1, .bool r.2]) ∧ Below wx.heap.size wx w') :
    Calls Tryz.prog 41 #[.agg #[.slice (some ⟨bt, 0, none⟩) tk.length cap, .func (.func 36) #[] #[]], kv] w fun e w' => e = .returned (.tuple #[sh (ofR (goesB tk l) r).1, .bool (ofR (goesB tk l) r).2]) ∧ Below w.heap.size w w' := by
  obtain ⟨r1, r2⟩ := r
  simp only at TC
  obtain ⟨hlen, a, kcap, rfl, hk⟩ := h
  have HK := hide hk
  have HT := hide hT
  have HC := hide TC
  have X0 := (Bx2.new w 99 (.slice (some ⟨bt, 0, none⟩) tk.length cap) (.func (.func 36) #[] #[])).keep ((Below.refl _ _).alloc (Nat.le_refl _) (.cells #[.int .i64 0, .int .i64 0] 47)) (by simp)
  have Y0 := Bx2.new (w.alloc (.cells #[.slice (some ⟨bt, 0, none⟩) tk.length cap, .func (.func 36) #[] #[]] 99)) 47 (.int .i64 0) (.int .i64 0)
  rw [World.size_alloc] at Y0
  have B0 := below2 w (.cells #[.slice (some ⟨bt, 0, none⟩) tk.length cap, .func (.func 36) #[] #[]] 99) (.cells #[.int .i64 0, .int .i64 0] 47)
  have HX := hide X0
  have HY := hide Y0
  have HB := hide B0
  have hlt63 : tk.length ≤ 1000000 := by omega
  have HL := hide hl
  clear X0 Y0 B0 hk hT TC hl
  go_enter Tryz.func41, Tryz.ntmps41
  go_wp2
  go_loopw [11] (fun i wr => ∃ m : Nat, m ≤ tk.length ∧ i = .int .i64 (m : Int) ∧ Hid (goesB tk l = goesB (tk.drop m) (l.drop m)) ∧ Hid (Bx2 wr w.heap.size (.slice (some ⟨bt, 0, none⟩) tk.length cap) (.func (.func 36) #[] #[])) ∧ Hid (Bx2 wr (w.heap.size + 1) (.int .i64 0) (.int .i64 0)) ∧ Hid (Below w.heap.size w wr)) (fun i _ => tk.length - (intOf i).toNat)
  case atStart => exact ⟨0, Nat.zero_le _, rfl, hide rfl, HX, HY, HB⟩
  case round =>
    obtain ⟨m, hml, rfl, H, HX1, HY1, HB1⟩ := hrel
    clear HX HY HB
    by_cases hlt : m < tk.length
    · have hi1 : (m : Int) < (tk.length : Int) := by omega
      have hi2 : (m : Int) < (l.length : Int) := by have := unhide HL; omega
      have hlt2 : m < l.length := by omega
      obtain ⟨k, hku⟩ : ∃ k, tk[m]? = some k := ⟨_, List.getElem?_eq_getElem hlt⟩
      obtain ⟨u, hu⟩ : ∃ u, l[m]? = some u := ⟨_, List.getElem?_eq_getElem hlt2⟩
      have E := hide ((unhide H).trans (goes_step hku hu))
      obtain ⟨g, off, rfl, hB, hg, hc⟩ := unhide HK (by intro e; subst e; simp at hlt2)
      have c0 := ((unhide HB1).cell (p := ⟨g, off + m * 2, none⟩) hg).trans (hc m u hu).1
      have c1 := ((unhide HB1).cell (p := ⟨g, off + m * 2 + 1, none⟩) hg).trans (hc m u hu).2
      have d0 := ((unhide HB1).cell (p := ⟨bt, m, none⟩) (unhide HT).2.1).trans ((unhide HT).2.2 m k hku)
      have MB := hide (fun wx => mayBe_any u k wx)
      have HF : Hid (goesB tk l = false → ofR (goesB tk l) (r1, r2) = (⟨0, 0⟩, false)) := hide (fun q => by rw [q]; rfl)
      generalize u.mayB k = q at *
      clear hc hu hku HK H HC
      by_cases hk0 : k = 0
      · subst hk0
        clear MB
        go_wp2
        go_roundw
        case rel => exact ⟨m + 1, by omega, by go_num, hide ((unhide E).trans (by simp)), HX1, HY1, HB1⟩
        case measure => simp [intOf]; omega
      · have hk1 : (k != 0) = true := by simpa using hk0
        have hk2 : (k == 0) = false := by simpa using hk0
        rw [hk2] at E
        go_wp2_with fail
        refine (unhide MB _).mono ?_
        rintro e w2 ⟨rfl, hb2⟩
        have HX2 := hide ((unhide HX1).keep hb2 (unhide HX1).low)
        have HY2 := hide ((unhide HY1).keep hb2 (unhide HY1).low)
        have HB2 := hide (below_via (unhide HB1) hb2)
        clear hb2 MB c0 c1 d0 HX1 HY1 HB1 hk2 hk0
        cases q
        · have EF := hide (unhide HF ((unhide E).trans (by simp)))
          have x0 := (unhide HY2).at0
          have x1 := (unhide HY2).at1
          have t0 := (unhide HY2).th0
          have t1 := (unhide HY2).th1
          have lx := (unhide HY2).low
          clear HX2 HY2 HF E
          go_wp2
          refine bodyPost_ret (v := .tuple #[shn 0 0, .bool false]) (by simp [results, Tryz.results41, go_sem, x0, x1]) rfl ⟨by rw [unhide EF]; rfl, ?_⟩
          exact ((unhide HB2).setCell (by simp) _).setCell (by simp) _
        · go_wp2
          go_roundw
          case rel => exact ⟨m + 1, by omega, by go_num, hide ((unhide E).trans (by simp)), HX2, HY2, HB2⟩
          case measure => simp [intOf]; omega
    · obtain rfl : m = tk.length := by omega
      have E : Hid (ofR (goesB tk l) (r1, r2) = (r1, r2)) := hide (by rw [unhide H, List.drop_length]; simp [goesB, ofR])
      have C1 := hide (unhide HC _ (unhide HB1))
      have y0 := (unhide HX1).at0
      have y1 := (unhide HX1).at1
      clear H HK HC HT
      go_wp2_with fail
      refine (unhide C1).mono ?_
      rintro e w2 ⟨rfl, hb2⟩
      have Y2 := (unhide HY1).keep hb2 (unhide HY1).low
      have HB2 := hide (below_via (unhide HB1) hb2)
      have x0 := Y2.at0
      have x1 := Y2.at1
      have t0 := Y2.th0
      have t1 := Y2.th1
      have lx := Y2.low
      clear hb2 Y2 HX1 HY1 HB1 C1 y0 y1
      go_wp2
      refine bodyPost_ret (v := .tuple #[sh r1, .bool r2]) (by simp [results, Tryz.results41, go_sem, x0, x1]) rfl ⟨by rw [unhide E], ?_⟩
      exact ((unhide HB2).setCell (by simp) _).setCell (by simp) _

set_option maxHeartbeats 8000000 in
theorem of_elems {B : Nat} {l : List Sp} {kv : Value} (tk : List Int) (bt cap : Nat) (w : World) (hT : TkV 0 w tk bt) (h : SL B w kv l) (hl : tk.length = l.length) (r : Sp × Bool)
    (TC : ∀ wx, Below w.heap.size w wx → Calls Tryz.prog 38 #[kv] wx fun e w' => e = .returned (.tuple #[sh r.1, .bool r.2]) ∧ Below wx.heap.size wx w') :
    Calls Tryz.prog 41 #[.agg #[.slice (some ⟨bt, 0, none⟩) tk.length cap, .func (.func 38) #[] #[]], kv] w fun e w' => e = .returned (.tuple #[sh (ofR (goesB tk l) r).1, .bool (ofR (goesB tk l) r).2]) ∧ Below w.heap.size w w' := by
  obtain ⟨r1, r2⟩ := r
  simp only at TC
  obtain ⟨hlen, a, kcap, rfl, hk⟩ := h
  have HK := hide hk
  have HT := hide hT
  have HC := hide TC
  have X0 := (Bx2.new w 99 (.slice (some ⟨bt, 0, none⟩) tk.length cap) (.func (.func 38) #[] #[])).keep ((Below.refl _ _).alloc (Nat.le_refl _) (.cells #[.int .i64 0, .int .i64 0] 47)) (by simp)
  have Y0 := Bx2.new (w.alloc (.cells #[.slice (some ⟨bt, 0, none⟩) tk.length cap, .func (.func 38) #[] #[]] 99)) 47 (.int .i64 0) (.int .i64 0)
  rw [World.size_alloc] at Y0
  have B0 := below2 w (.cells #[.slice (some ⟨bt, 0, none⟩) tk.length cap, .func (.func 38) #[] #[]] 99) (.cells #[.int .i64 0, .int .i64 0] 47)
  have HX := hide X0
  have HY := hide Y0
  have HB := hide B0
  have hlt63 : tk.length ≤ 1000000 := by omega
  have HL := hide hl
  clear X0 Y0 B0 hk hT TC hl
  go_enter Tryz.func41, Tryz.ntmps41
  go_wp2
  go_loopw [11] (fun i wr => ∃ m : Nat, m ≤ tk.length ∧ i = .int .i64 (m : Int) ∧ Hid (goesB tk l = goesB (tk.drop m) (l.drop m)) ∧ Hid (Bx2 wr w.heap.size (.slice (some ⟨bt, 0, none⟩) tk.length cap) (.func (.func 38) #[] #[])) ∧ Hid (Bx2 wr (w.heap.size + 1) (.int .i64 0) (.int .i64 0)) ∧ Hid (Below w.heap.size w wr)) (fun i _ => tk.length - (intOf i).toNat)
  case atStart => exact ⟨0, Nat.zero_le _, rfl, hide rfl, HX, HY, HB⟩
  case round =>
    obtain ⟨m, hml, rfl, H, HX1, HY1, HB1⟩ := hrel
    clear HX HY HB
    by_cases hlt : m < tk.length
    · have hi1 : (m : Int) < (tk.length : Int) := by omega
      have hi2 : (m : Int) < (l.length : Int) := by have := unhide HL; omega
      have hlt2 : m < l.length := by omega
      obtain ⟨k, hku⟩ : ∃ k, tk[m]? = some k := ⟨_, List.getElem?_eq_getElem hlt⟩
      obtain ⟨u, hu⟩ : ∃ u, l[m]? = some u := ⟨_, List.getElem?_eq_getElem hlt2⟩
      have E := hide ((unhide H).trans (goes_step hku hu))
      obtain ⟨g, off, rfl, hB, hg, hc⟩ := unhide HK (by intro e; subst e; simp at hlt2)
      have c0 := ((unhide HB1).cell (p := ⟨g, off + m * 2, none⟩) hg).trans (hc m u hu).1
      have c1 := ((unhide HB1).cell (p := ⟨g, off + m * 2 + 1, none⟩) hg).trans (hc m u hu).2
      have d0 := ((unhide HB1).cell (p := ⟨bt, m, none⟩) (unhide HT).2.1).trans ((unhide HT).2.2 m k hku)
      have MB := hide (fun wx => mayBe_any u k wx)
      have HF : Hid (goesB tk l = false → ofR (goesB tk l) (r1, r2) = (⟨0, 0⟩, false)) := hide (fun q => by rw [q]; rfl)
      generalize u.mayB k = q at *
      clear hc hu hku HK H HC
      by_cases hk0 : k = 0
      · subst hk0
        clear MB
        go_wp2
        go_roundw
        case rel => exact ⟨m + 1, by omega, by go_num, hide ((unhide E).trans (by simp)), HX1, HY1, HB1⟩
        case measure => simp [intOf]; omega
      · have hk1 : (k != 0) = true := by simpa using hk0
        have hk2 : (k == 0) = false := by simpa using hk0
        rw [hk2] at E
        go_wp2_with fail
        refine (unhide MB _).mono ?_
        rintro e w2 ⟨rfl, hb2⟩
        have HX2 := hide ((unhide HX1).keep hb2 (unhide HX1).low)
        have HY2 := hide ((unhide HY1).keep hb2 (unhide HY1).low)
        have HB2 := hide (below_via (unhide HB1) hb2)
        clear hb2 MB c0 c1 d0 HX1 HY1 HB1 hk2 hk0
        cases q
        · have EF := hide (unhide HF ((unhide E).trans (by simp)))
          have x0 := (unhide HY2).at0
          have x1 := (unhide HY2).at1
          have t0 := (unhide HY2).th0
          have t1 := (unhide HY2).th1
          have lx := (unhide HY2).low
          clear HX2 HY2 HF E
          go_wp2
          refine bodyPost_ret (v := .tuple #[shn 0 0, .bool false]) (by simp [results, Tryz.results41, go_sem, x0, x1]) rfl ⟨by rw [unhide EF]; rfl, ?_⟩
          exact ((unhide HB2).setCell (by simp) _).setCell (by simp) _
        · go_wp2
          go_roundw
          case rel => exact ⟨m + 1, by omega, by go_num, hide ((unhide E).trans (by simp)), HX2, HY2, HB2⟩
          case measure => simp [intOf]; omega
    · obtain rfl : m = tk.length := by omega
      have E : Hid (ofR (goesB tk l) (r1, r2) = (r1, r2)) := hide (by rw [unhide H, List.drop_length]; simp [goesB, ofR])
      have C1 := hide (unhide HC _ (unhide HB1))
      have y0 := (unhide HX1).at0
      have y1 := (unhide HX1).at1
      clear H HK HC HT
      go_wp2_with fail
      refine (unhide C1).mono ?_
      rintro e w2 ⟨rfl, hb2⟩
      have Y2 := (unhide HY1).keep hb2 (unhide HY1).low
      have HB2 := hide (below_via (unhide HB1) hb2)
      have x0 := Y2.at0
      have x1 := Y2.at1
      have t0 := Y2.th0
      have t1 := Y2.th1
      have lx := Y2.low
      clear hb2 Y2 HX1 HY1 HB1 C1 y0 y1
      go_wp2
      refine bodyPost_ret (v := .tuple #[sh r1, .bool r2]) (by simp [results, Tryz.results41, go_sem, x0, x1]) rfl ⟨by rw [unhide E], ?_⟩
      exact ((unhide HB2).setCell (by simp) _).setCell (by simp) _

set_option maxHeartbeats 8000000 in
theorem of_sum {B : Nat} {l : List Sp} {kv : Value} (tk : List Int) (bt cap : Nat) (w : World) (hT : TkV 0 w tk bt) (h : SL B w kv l) (hl : tk.length = l.length) (r : Sp × Bool)
    (TC : ∀ wx, Below w.heap.size w wx → Calls Tryz.prog 37 #[kv] wx fun e w' => e = .returned (.tuple #[sh r.1, .bool r.2]) ∧ Below wx.heap.size wx w') :
    Calls Tryz.prog 41 #[.agg #[.slice (some ⟨bt, 0, none⟩) tk.length cap, .func (.func 37) #[] #[]], kv] w fun e w' => e = .returned (.tuple #[sh (ofR (goesB tk l) r).1, .bool (ofR (goesB tk l) r).2]) ∧ Below w.heap.size w w' := by
  obtain ⟨r1, r2⟩ := r
  simp only at TC
  obtain ⟨hlen, a, kcap, rfl, hk⟩ := h
  have HK := hide hk
  have HT := hide hT
  have HC := hide TC
  have X0 := (Bx2.new w 99 (.slice (some ⟨bt, 0, none⟩) tk.length cap) (.func (.func 37) #[] #[])).keep ((Below.refl _ _).alloc (Nat.le_refl _) (.cells #[.int .i64 0, .int .i64 0] 47)) (by simp)
  have Y0 := Bx2.new (w.alloc (.cells #[.slice (some ⟨bt, 0, none⟩) tk.length cap, .func (.func 37) #[] #[]] 99)) 47 (.int .i64 0) (.int .i64 0)
  rw [World.size_alloc] at Y0
  have B0 := below2 w (.cells #[.slice (some ⟨bt, 0, none⟩) tk.length cap, .func (.func 37) #[] #[]] 99) (.cells #[.int .i64 0, .int .i64 0] 47)
  have HX := hide X0
  have HY := hide Y0
  have HB := hide B0
  have hlt63 : tk.length ≤ 1000000 := by omega
  have HL := hide hl
  clear X0 Y0 B0 hk hT TC hl
  go_enter Tryz.func41, Tryz.ntmps41
  go_wp2
  go_loopw [11] (fun i wr => ∃ m : Nat, m ≤ tk.length ∧ i = .int .i64 (m : Int) ∧ Hid (goesB tk l = goesB (tk.drop m) (l.drop m)) ∧ Hid (Bx2 wr w.heap.size (.slice (some ⟨bt, 0, none⟩) tk.length cap) (.func (.func 37) #[] #[])) ∧ Hid (Bx2 wr (w.heap.size + 1) (.int .i64 0) (.int .i64 0)) ∧ Hid (Below w.heap.size w wr)) (fun i _ => tk.length - (intOf i).toNat)
  case atStart => exact ⟨0, Nat.zero_le _, rfl, hide rfl, HX, HY, HB⟩
  case round =>
    obtain ⟨m, hml, rfl, H, HX1, HY1, HB1⟩ := hrel
    clear HX HY HB
    by_cases hlt : m < tk.length
    · have hi1 : (m : Int) < (tk.length : Int) := by omega
      have hi2 : (m : Int) < (l.length : Int) := by have := unhide HL; omega
      have hlt2 : m < l.length := by omega
      obtain ⟨k, hku⟩ : ∃ k, tk[m]? = some k := ⟨_, List.getElem?_eq_getElem hlt⟩
      obtain ⟨u, hu⟩ : ∃ u, l[m]? = some u := ⟨_, List.getElem?_eq_getElem hlt2⟩
      have E := hide ((unhide H).trans (goes_step hku hu))
      obtain ⟨g, off, rfl, hB, hg, hc⟩ := unhide HK (by intro e; subst e; simp at hlt2)
      have c0 := ((unhide HB1).cell (p := ⟨g, off + m * 2, none⟩) hg).trans (hc m u hu).1
      have c1 := ((unhide HB1).cell (p := ⟨g, off + m * 2 + 1, none⟩) hg).trans (hc m u hu).2
      have d0 := ((unhide HB1).cell (p := ⟨bt, m, none⟩) (unhide HT).2.1).trans ((unhide HT).2.2 m k hku)
      have MB := hide (fun wx => mayBe_any u k wx)
      have HF : Hid (goesB tk l = false → ofR (goesB tk l) (r1, r2) = (⟨0, 0⟩, false)) := hide (fun q => by rw [q]; rfl)
      generalize u.mayB k = q at *
      clear hc hu hku HK H HC
      by_cases hk0 : k = 0
      · subst hk0
        clear MB
        go_wp2
        go_roundw
        case rel => exact ⟨m + 1, by omega, by go_num, hide ((unhide E).trans (by simp)), HX1, HY1, HB1⟩
        case measure => simp [intOf]; omega
      · have hk1 : (k != 0) = true := by simpa using hk0
        have hk2 : (k == 0) = false := by simpa using hk0
        rw [hk2] at E
        go_wp2_with fail
        refine (unhide MB _).mono ?_
        rintro e w2 ⟨rfl, hb2⟩
        have HX2 := hide ((unhide HX1).keep hb2 (unhide HX1).low)
        have HY2 := hide ((unhide HY1).keep hb2 (unhide HY1).low)
        have HB2 := hide (below_via (unhide HB1) hb2)
        clear hb2 MB c0 c1 d0 HX1 HY1 HB1 hk2 hk0
        cases q
        · have EF := hide (unhide HF ((unhide E).trans (by simp)))
          have x0 := (unhide HY2).at0
          have x1 := (unhide HY2).at1
          have t0 := (unhide HY2).th0
          have t1 := (unhide HY2).th1
          have lx := (unhide HY2).low
          clear HX2 HY2 HF E
          go_wp2
          refine bodyPost_ret (v := .tuple #[shn 0 0, .bool false]) (by simp [results, Tryz.results41, go_sem, x0, x1]) rfl ⟨by rw [unhide EF]; rfl, ?_⟩
          exact ((unhide HB2).setCell (by simp) _).setCell (by simp) _
        · go_wp2
          go_roundw
          case rel => exact ⟨m + 1, by omega, by go_num, hide ((unhide E).trans (by simp)), HX2, HY2, HB2⟩
          case measure => simp [intOf]; omega
    · obtain rfl : m = tk.length := by omega
      have E : Hid (ofR (goesB tk l) (r1, r2) = (r1, r2)) := hide (by rw [unhide H, List.drop_length]; simp [goesB, ofR])
      have C1 := hide (unhide HC _ (unhide HB1))
      have y0 := (unhide HX1).at0
      have y1 := (unhide HX1).at1
      clear H HK HC HT
      go_wp2_with fail
      refine (unhide C1).mono ?_
      rintro e w2 ⟨rfl, hb2⟩
      have Y2 := (unhide HY1).keep hb2 (unhide HY1).low
      have HB2 := hide (below_via (unhide HB1) hb2)
      have x0 := Y2.at0
      have x1 := Y2.at1
      have t0 := Y2.th0
      have t1 := Y2.th1
      have lx := Y2.low
      clear hb2 Y2 HX1 HY1 HB1 C1 y0 y1
      go_wp2
      refine bodyPost_ret (v := .tuple #[sh r1, .bool r2]) (by simp [results, Tryz.results41, go_sem, x0, x1]) rfl ⟨by rw [unhide E], ?_⟩
      exact ((unhide HB2).setCell (by simp) _).setCell (by simp) _

set_option maxHeartbeats 8000000 in
theorem of_between {B : Nat} {l : List Sp} {kv : Value} (tk : List Int) (bt cap : Nat) (w : World) (hT : TkV 0 w tk bt) (h : SL B w kv l) (hl : tk.length = l.length) (r : Sp × Bool)
    (TC : ∀ wx, Below w.heap.size w wx → Calls Tryz.prog 39 #[kv] wx fun e w' => e = .returned (.tuple #[sh r.1, .bool r.2]) ∧ Below wx.heap.size wx w') :
    Calls Tryz.prog 41 #[.agg #[.slice (some ⟨bt, 0, none⟩) tk.length cap, .func (.func 39) #[] #[]], kv] w fun e w' => e = .returned (.tuple #[sh (ofR (goesB tk l) r).1, .bool (ofR (goesB tk l) r).2]) ∧ Below w.heap.size w w' := by
  obtain ⟨r1, r2⟩ := r
  simp only at TC
  obtain ⟨hlen, a, kcap, rfl, hk⟩ := h
  have HK := hide hk
  have HT := hide hT
  have HC := hide TC
  have X0 := (Bx2.new w 99 (.slice (some ⟨bt, 0, none⟩) tk.length cap) (.func (.func 39) #[] #[])).keep ((Below.refl _ _).alloc (Nat.le_refl _) (.cells #[.int .i64 0, .int .i64 0] 47)) (by simp)
  have Y0 := Bx2.new (w.alloc (.cells #[.slice (some ⟨bt, 0, none⟩) tk.length cap, .func (.func 39) #[] #[]] 99)) 47 (.int .i64 0) (.int .i64 0)
  rw [World.size_alloc] at Y0
  have B0 := below2 w (.cells #[.slice (some ⟨bt, 0, none⟩) tk.length cap, .func (.func 39) #[] #[]] 99) (.cells #[.int .i64 0, .int .i64 0] 47)
  have HX := hide X0
  have HY := hide Y0
  have HB := hide B0
  have hlt63 : tk.length ≤ 1000000 := by omega
  have HL := hide hl
  clear X0 Y0 B0 hk hT TC hl
  go_enter Tryz.func41, Tryz.ntmps41
  go_wp2
  go_loopw [11] (fun i wr => ∃ m : Nat, m ≤ tk.length ∧ i = .int .i64 (m : Int) ∧ Hid (goesB tk l = goesB (tk.drop m) (l.drop m)) ∧ Hid (Bx2 wr w.heap.size (.slice (some ⟨bt, 0, none⟩) tk.length cap) (.func (.func 39) #[] #[])) ∧ Hid (Bx2 wr (w.heap.size + 1) (.int .i64 0) (.int .i64 0)) ∧ Hid (Below w.heap.size w wr)) (fun i _ => tk.length - (intOf i).toNat)
  case atStart => exact ⟨0, Nat.zero_le _, rfl, hide rfl, HX, HY, HB⟩
  case round =>
    obtain ⟨m, hml, rfl, H, HX1, HY1, HB1⟩ := hrel
    clear HX HY HB
    by_cases hlt : m < tk.length
    · have hi1 : (m : Int) < (tk.length : Int) := by omega
      have hi2 : (m : Int) < (l.length : Int) := by have := unhide HL; omega
      have hlt2 : m < l.length := by omega
      obtain ⟨k, hku⟩ : ∃ k, tk[m]? = some k := ⟨_, List.getElem?_eq_getElem hlt⟩
      obtain ⟨u, hu⟩ : ∃ u, l[m]? = some u := ⟨_, List.getElem?_eq_getElem hlt2⟩
      have E := hide ((unhide H).trans (goes_step hku hu))
      obtain ⟨g, off, rfl, hB, hg, hc⟩ := unhide HK (by intro e; subst e; simp at hlt2)
      have c0 := ((unhide HB1).cell (p := ⟨g, off + m * 2, none⟩) hg).trans (hc m u hu).1
      have c1 := ((unhide HB1).cell (p := ⟨g, off + m * 2 + 1, none⟩) hg).trans (hc m u hu).2
      have d0 := ((unhide HB1).cell (p := ⟨bt, m, none⟩) (unhide HT).2.1).trans ((unhide HT).2.2 m k hku)
      have MB := hide (fun wx => mayBe_any u k wx)
      have HF : Hid (goesB tk l = false → ofR (goesB tk l) (r1, r2) = (⟨0, 0⟩, false)) := hide (fun q => by rw [q]; rfl)
      generalize u.mayB k = q at *
      clear hc hu hku HK H HC
      by_cases hk0 : k = 0
      · subst hk0
        clear MB
        go_wp2
        go_roundw
        case rel => exact ⟨m + 1, by omega, by go_num, hide ((unhide E).trans (by simp)), HX1, HY1, HB1⟩
        case measure => simp [intOf]; omega
      · have hk1 : (k != 0) = true := by simpa using hk0
        have hk2 : (k == 0) = false := by simpa using hk0
        rw [hk2] at E
        go_wp2_with fail
        refine (unhide MB _).mono ?_
        rintro e w2 ⟨rfl, hb2⟩
        have HX2 := hide ((unhide HX1).keep hb2 (unhide HX1).low)
        have HY2 := hide ((unhide HY1).keep hb2 (unhide HY1).low)
        have HB2 := hide (below_via (unhide HB1) hb2)
        clear hb2 MB c0 c1 d0 HX1 HY1 HB1 hk2 hk0
        cases q
        · have EF := hide (unhide HF ((unhide E).trans (by simp)))
          have x0 := (unhide HY2).at0
          have x1 := (unhide HY2).at1
          have t0 := (unhide HY2).th0
          have t1 := (unhide HY2).th1
          have lx := (unhide HY2).low
          clear HX2 HY2 HF E
          go_wp2
          refine bodyPost_ret (v := .tuple #[shn 0 0, .bool false]) (by simp [results, Tryz.results41, go_sem, x0, x1]) rfl ⟨by rw [unhide EF]; rfl, ?_⟩
          exact ((unhide HB2).setCell (by simp) _).setCell (by simp) _
        · go_wp2
          go_roundw
          case rel => exact ⟨m + 1, by omega, by go_num, hide ((unhide E).trans (by simp)), HX2, HY2, HB2⟩
          case measure => simp [intOf]; omega
    · obtain rfl : m = tk.length := by omega
      have E : Hid (ofR (goesB tk l) (r1, r2) = (r1, r2)) := hide (by rw [unhide H, List.drop_length]; simp [goesB, ofR])
      have C1 := hide (unhide HC _ (unhide HB1))
      have y0 := (unhide HX1).at0
      have y1 := (unhide HX1).at1
      clear H HK HC HT
      go_wp2_with fail
      refine (unhide C1).mono ?_
      rintro e w2 ⟨rfl, hb2⟩
      have Y2 := (unhide HY1).keep hb2 (unhide HY1).low
      have HB2 := hide (below_via (unhide HB1) hb2)
      have x0 := Y2.at0
      have x1 := Y2.at1
      have t0 := Y2.th0
      have t1 := Y2.th1
      have lx := Y2.low
      clear hb2 Y2 HX1 HY1 HB1 C1 y0 y1
      go_wp2
      refine bodyPost_ret (v := .tuple #[sh r1, .bool r2]) (by simp [results, Tryz.results41, go_sem, x0, x1]) rfl ⟨by rw [unhide E], ?_⟩
      exact ((unhide HB2).setCell (by simp) _).setCell (by simp) _

end Go.Proofs.YtdgojpjmhalilaaGreatDoor

/- Walks: the table of functions. (Written by gen_ye.py.) -/
namespace Go.Proofs.YtdgojpjmhalilaaGreatDoor
open Go.RowKit

open Go.MapKept

/-- what a function tells, as a value -/
def TlV (lo : Nat) (w : World) : Tl → Value → Prop
  | .always k, v => ∃ c, v = .func (.func 62) #[] #[.pointer (some ⟨c, 0, none⟩)] ∧ lo ≤ c ∧ c < w.heap.size ∧ w.cell? ⟨c, 0, none⟩ = some (.int .i64 k)
  | .elem, v => v = .func (.func 36) #[] #[]
  | .elems, v => v = .func (.func 38) #[] #[]
  | .sum, v => v = .func (.func 37) #[] #[]
  | .between, v => v = .func (.func 39) #[] #[]
/-- what a block held that another one leaves -/
def Left (lo p : Nat) (w w' : World) : Prop := w.heap.size ≤ w'.heap.size ∧ ∀ b o, lo ≤ b → b < w.heap.size → b ≠ p → w'.cell? ⟨b, o, none⟩ = w.cell? ⟨b, o, none⟩
theorem Left.but {lo p : Nat} {w w' : World} (h : But p w w') : Left lo p w w' := ⟨h.size, fun b o _ hb hp => h.cell (q := ⟨b, o, none⟩) hb hp⟩
theorem Left.of {lo p : Nat} {w w' : World} (h : Below w.heap.size w w') : Left lo p w w' := ⟨h.size, fun b o _ hb _ => h.cell (p := ⟨b, o, none⟩) hb⟩
theorem TkV.left {lo p : Nat} {w w' : World} {tk : List Int} {b : Nat} (h : TkV lo w tk b) (k : Left lo p w w') (ne : b ≠ p) : TkV lo w' tk b := ⟨h.1, Nat.lt_of_lt_of_le h.2.1 k.1, fun i x hx => (k.2 b i h.1 h.2.1 ne).trans (h.2.2 i x hx)⟩
theorem TkV.mono {lo lo' : Nat} {w : World} {tk : List Int} {b : Nat} (h : TkV lo w tk b) (k : lo' ≤ lo) : TkV lo' w tk b := ⟨Nat.le_trans k h.1, h.2⟩

/-- the functions in memory: a map in block m, all else in blocks from lo on but for m -/
structure FnM (lo m : Nat) (w : World) (tab : List (List UInt8 × List Int × Tl)) : Prop where
  low : lo ≤ m
  tell : ∃ f, MapF m f w ∧ ∀ s : ByteArray, match fnIn tab s.data.toList with
    | none => f s = none
    | some q => ∃ bt cap fv, f s = some (.agg #[.slice (some ⟨bt, 0, none⟩) q.1.length cap, fv]) ∧ TkV lo w q.1 bt ∧ bt ≠ m ∧ TlV lo w q.2 fv ∧ (∀ c, fv = .func (.func 62) #[] #[.pointer (some ⟨c, 0, none⟩)] → c ≠ m)
theorem TlV.left {lo p : Nat} {w w' : World} {t : Tl} {v : Value} (h : TlV lo w t v) (k : Left lo p w w') (ne : ∀ c, v = .func (.func 62) #[] #[.pointer (some ⟨c, 0, none⟩)] → c ≠ p) : TlV lo w' t v := by
  cases t with
  | always x =>
    obtain ⟨c, hv, h1, h2, h3⟩ := h
    exact ⟨c, hv, h1, Nat.lt_of_lt_of_le h2 k.1, (k.2 c 0 h1 h2 (ne c hv)).trans h3⟩
  | elem => exact h
  | elems => exact h
  | sum => exact h
  | between => exact h
theorem FnM.left {lo m p : Nat} {w w' : World} {tab : List (List UInt8 × List Int × Tl)} (h : FnM lo m w tab) (k : Left lo p w w') (hp : p < lo) (hm : ∀ f, MapF m f w → MapF m f w') : FnM lo m w' tab := by
  obtain ⟨f, h1, h2⟩ := h.tell
  refine ⟨h.low, f, hm f h1, fun s => ?_⟩
  have hs := h2 s
  generalize fnIn tab s.data.toList = q at hs ⊢
  cases q with
  | none => exact hs
  | some q =>
    obtain ⟨bt, cap, fv, e1, e2, e3, e4, e5⟩ := hs
    refine ⟨bt, cap, fv, e1, e2.left k (by have := e2.1; omega), e3, e4.left k (fun c hc => ?_), e5⟩
    cases hq : q.2 with
    | always x =>
      rw [hq] at e4
      obtain ⟨c', hv, h1, _⟩ := e4
      rw [hc] at hv
      simp at hv
      omega
    | elem => rw [hq] at e4; rw [hc] at e4; simp [TlV] at e4
    | elems => rw [hq] at e4; rw [hc] at e4; simp [TlV] at e4
    | sum => rw [hq] at e4; rw [hc] at e4; simp [TlV] at e4
    | between => rw [hq] at e4; rw [hc] at e4; simp [TlV] at e4
theorem FnM.keep {lo m : Nat} {w w' : World} {tab : List (List UInt8 × List Int × Tl)} (h : FnM lo m w tab) (hl : 0 < lo) (hb : Below w.heap.size w w') : FnM lo m w' tab := h.left (p := 0) (Left.of hb) hl (fun _ q => q.keep hb)
theorem FnM.but {lo m p : Nat} {w w' : World} {tab : List (List UInt8 × List Int × Tl)} (h : FnM lo m w tab) (hp : p < lo) (hb : But p w w') : FnM lo m w' tab := h.left (Left.but hb) hp (fun _ q => q.but hb (by have := h.low; omega))
theorem FnM.new (w : World) (lo : Nat) (h : lo ≤ w.heap.size) : FnM lo w.heap.size (w.alloc (.map #[] 0)) [] := ⟨h, _, MapF.new w, fun _ => rfl⟩

theorem cell_alloc_at (w : World) (cs : Array Value) (t : TypeId) {i : Nat} {v : Value} (h : cs[i]? = some v) : (w.alloc (.cells cs t)).cell? ⟨w.heap.size, i, none⟩ = some v := by
  have e : (w.alloc (.cells cs t)).heap[w.heap.size]? = some (.cells cs t) := (heap_alloc w _).1
  simp only [World.cell?]
  rw [e]
  exact h
theorem TkV.new (w : World) (t : TypeId) (tk : List Int) (lo : Nat) (h : lo ≤ w.heap.size) : TkV lo (w.alloc (.cells (tk.map (Value.int .i64)).toArray t)) tk w.heap.size :=
  ⟨h, by simp, fun i k hk => cell_alloc_at w _ t (by simp [hk])⟩
theorem byte_eq {s t : ByteArray} (h : s.data.toList = t.data.toList) : s = t := by
  cases s with
  | mk a => cases t with
    | mk b =>
      simp only at h
      rw [show a = b from by rw [← Array.toArray_toList (xs := a), h, Array.toArray_toList]]

section
variable {lo m : Nat} {w : World} {t kt et : TypeId} {o : Oper} {a : Act} {K : Act → World → Prop} {Q : Exit → Act → World → Prop} {tab : List (List UInt8 × List Int × Tl)}
theorem FnM.put (M : FnM lo m w tab) (hm : Tryz.prog.underlying t = some (.map kt et)) (hd : Tryz.prog.underlying kt = some .string) (s : ByteArray) (tk : List Int) (tl : Tl) {bt cap : Nat} {fv : Value} (h1 : TkV lo w tk bt) (h2 : bt ≠ m) (h3 : TlV lo w tl fv) (h4 : ∀ c, fv = .func (.func 62) #[] #[.pointer (some ⟨c, 0, none⟩)] → c ≠ m) :
    ∃ w2, (Instr.mapUpdate t (.map (some m)) (.string s) (.agg #[.slice (some ⟨bt, 0, none⟩) tk.length cap, fv])).run Tryz.prog w = .ok () w2 ∧ FnM lo m w2 ((s.data.toList, tk, tl) :: tab) ∧ But m w w2 := by
  obtain ⟨f, e1, e2⟩ := M.tell
  obtain ⟨w2, hr, M2, B2⟩ := e1.put hm hd s (.agg #[.slice (some ⟨bt, 0, none⟩) tk.length cap, fv])
  have L : Left lo m w w2 := Left.but B2
  refine ⟨w2, hr, ⟨M.low, _, M2, fun x => ?_⟩, B2⟩
  rw [fnIn]
  by_cases hx : s.data.toList = x.data.toList
  · rw [if_pos hx]
    obtain rfl := byte_eq hx
    exact ⟨bt, cap, fv, by unfold updV; rw [if_pos rfl], h1.left L h2, h2, h3.left L h4, h4⟩
  · rw [if_neg hx]
    have hne : ¬ x = s := fun e => hx (by rw [e])
    have hs := e2 x
    generalize fnIn tab x.data.toList = q at hs ⊢
    cases q with
    | none =>
      show updV f s _ x = none
      unfold updV
      rw [if_neg hne]
      exact hs
    | some q =>
      obtain ⟨bt', cap', fv', g1, g2, g3, g4, g5⟩ := hs
      exact ⟨bt', cap', fv', by unfold updV; rw [if_neg hne]; exact g1, g2.left L g3, g3, g4.left L g5, g5⟩
set_option maxRecDepth 100000 in
theorem upon_fn (hm : Tryz.prog.underlying t = some (.map kt et)) (hd : Tryz.prog.underlying kt = some .string) (s : ByteArray) (tk : List Int) (tl : Tl) {bt cap : Nat} {fv : Value} (M : FnM lo m w tab) (h1 : TkV lo w tk bt) (h2 : bt ≠ m) (h3 : TlV lo w tl fv) (h4 : ∀ c, fv = .func (.func 62) #[] #[.pointer (some ⟨c, 0, none⟩)] → c ≠ m)
    (h : ∀ w2, FnM lo m w2 ((s.data.toList, tk, tl) :: tab) → But m w w2 → Oper.upon Tryz.prog o a K Q (.ok .skip w2)) :
    Oper.upon Tryz.prog o a K Q (((Instr.mapUpdate t (.map (some m)) (.string s) (.agg #[.slice (some ⟨bt, 0, none⟩) tk.length cap, fv])).run Tryz.prog w).andThen fun _ w' => .ok .skip w') := by
  obtain ⟨w2, hr, M2, B2⟩ := M.put hm hd s tk tl (cap := cap) h1 h2 h3 h4
  rw [hr, Result.andThen_ok]
  exact h w2 M2 B2
end

set_option maxHeartbeats 4000000 in
theorem always_tell (k : Int) (w : World) :
    Calls Tryz.prog 35 #[.int .i64 k] w fun e w' => e = .returned (.func (.func 62) #[] #[.pointer (some ⟨w.heap.size, 0, none⟩)]) ∧ w'.cell? ⟨w.heap.size, 0, none⟩ = some (.int .i64 k) ∧ w.heap.size < w'.heap.size ∧ Below w.heap.size w w' := by
  go_enter Tryz.func35, Tryz.ntmps35
  go_wp2_with fail
  go_ret
  exact ⟨rfl, cell_alloc_at w #[.int .i64 k] _ rfl, by simp, (Below.refl _ _).alloc (Nat.le_refl _) _⟩

/-- one more function that always tells one kind -/
theorem fn_always {lo m : Nat} {w0 w w1 : World} {tab : List (List UInt8 × List Int × Tl)} (hlo : 0 < lo) (hl : lo ≤ w.heap.size) (M : FnM lo m w tab) (B : Below w0.heap.size w0 w) (tk : List Int) (t : TypeId) (k : Int)
    (hc : w1.cell? ⟨w.heap.size + 1, 0, none⟩ = some (.int .i64 k)) (hz : w.heap.size + 1 < w1.heap.size) (hb : Below (w.heap.size + 1) (w.alloc (.cells (tk.map (Value.int .i64)).toArray t)) w1) :
    FnM lo m w1 tab ∧ TkV lo w1 tk w.heap.size ∧ w.heap.size ≠ m ∧ TlV lo w1 (.always k) (.func (.func 62) #[] #[.pointer (some ⟨w.heap.size + 1, 0, none⟩)]) ∧ (∀ c, Value.func (.func 62) #[] #[.pointer (some ⟨w.heap.size + 1, 0, none⟩)] = .func (.func 62) #[] #[.pointer (some ⟨c, 0, none⟩)] → c ≠ m) ∧ Below w0.heap.size w0 w1 := by
  have hm : m < w.heap.size := by obtain ⟨f, q, _⟩ := M.tell; exact q.low
  have hb' : Below (w.alloc (.cells (tk.map (Value.int .i64)).toArray t)).heap.size (w.alloc (.cells (tk.map (Value.int .i64)).toArray t)) w1 := by simpa using hb
  have hb2 : Below w.heap.size w w1 := below_via ((Below.refl _ _).alloc (Nat.le_refl _) _) hb'
  refine ⟨M.keep hlo hb2, (TkV.new w t tk lo hl).left (p := m) (Left.of hb') (by omega), by omega, ⟨_, rfl, by omega, hz, hc⟩, fun c e => ?_, below_via B hb2⟩
  simp at e
  omega
theorem fn_plain {lo m : Nat} {w0 w : World} {tab : List (List UInt8 × List Int × Tl)} (hlo : 0 < lo) (hl : lo ≤ w.heap.size) (M : FnM lo m w tab) (B : Below w0.heap.size w0 w) (tk : List Int) (t : TypeId) :
    FnM lo m (w.alloc (.cells (tk.map (Value.int .i64)).toArray t)) tab ∧ TkV lo (w.alloc (.cells (tk.map (Value.int .i64)).toArray t)) tk w.heap.size ∧ w.heap.size ≠ m ∧ Below w0.heap.size w0 (w.alloc (.cells (tk.map (Value.int .i64)).toArray t)) := by
  have hm : m < w.heap.size := by obtain ⟨f, q, _⟩ := M.tell; exact q.low
  exact ⟨M.keep hlo ((Below.refl _ _).alloc (Nat.le_refl _) _), TkV.new w t tk lo hl, by omega, B.alloc B.size _⟩
end Go.Proofs.YtdgojpjmhalilaaGreatDoor
