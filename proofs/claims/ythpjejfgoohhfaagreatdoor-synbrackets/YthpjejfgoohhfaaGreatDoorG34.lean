/- Walks: Over of any text. -/
import Derived.Test.YthpjejfgoohhfaaGreatDoorG33
import Derived.Test.YthpjejfgoohhfaaGreatDoorG32
namespace Go.Proofs.YthpjejfgoohhfaaGreatDoor
open Go.RowKit Go.MapKept

/-- tokens in memory, none too -/
theorem TM.row {B : Nat} {w : World} {sv : Value} {l : List Tk} (h : TM B w sv l) (hw : 0 < w.heap.size) : ∃ p c g, sv = .slice p l.length c ∧ l.length ≤ c ∧ (0 < l.length → p = some ⟨g, 0, none⟩) ∧ TKS w g l ∧ (0 < l.length → B ≤ g) ∧ (l.length = 0 → g = 0) := by
  rcases h.2 with ⟨h1, h0⟩ | ⟨g, cap, cur, hv, hg, hh, h1, h2, h3, h4⟩
  · obtain rfl := List.length_eq_zero_iff.1 h0
    exact ⟨none, 0, 0, h1, Nat.zero_le _, fun q => absurd q (by simp), ⟨hw, fun i t ht => by simp at ht⟩, fun q => absurd q (by simp), fun _ => rfl⟩
  · rcases Nat.eq_zero_or_pos l.length with q | q
    · obtain rfl := List.length_eq_zero_iff.1 q
      exact ⟨_, cap, 0, hv, h1, fun q => absurd q (by simp), ⟨hw, fun i t ht => by simp at ht⟩, fun q => absurd q (by simp), fun _ => rfl⟩
    · refine ⟨_, cap, g, hv, h1, fun _ => rfl, ⟨lt_of_block hh, fun i t ht j v hv' => ?_⟩, fun _ => hg, fun c => by omega⟩
      have hx := tkCs_at' l i t ht j v hv'
      rw [← h4, List.getElem?_take] at hx
      split at hx
      · simp [World.cell?, hh]
        simpa using hx
      · cases hx

theorem TKS.sets {w : World} {g b : Nat} {l : List Tk} {v0 v1 v2 v3 : Value} (h : TKS w g l) (hg : 0 < l.length → b + 1 < g) : TKS ((((w.setCell ⟨b, 0, none⟩ v0).setCell ⟨b, 1, none⟩ v1).setCell ⟨b + 1, 0, none⟩ v2).setCell ⟨b + 1, 1, none⟩ v3) g l := by
  have s : ∀ (w : World) (a : Addr) (v : Value), (w.setCell a v).heap.size = w.heap.size := fun w a v => by simp [World.setCell]
  refine ⟨by rw [s, s, s, s]; exact h.low, fun i t ht j v hv => ?_⟩
  have lg := hg (by have := (List.getElem?_eq_some_iff.1 ht).1; omega)
  have l0 := h.low
  rw [(But.set (p := b + 1) (j := 1) (v := v3)).cell (q := ⟨g, i * 5 + j, none⟩) (by rw [s, s, s]; exact l0) (by simp only; omega), (But.set (p := b + 1) (j := 0) (v := v2)).cell (q := ⟨g, i * 5 + j, none⟩) (by rw [s, s]; exact l0) (by simp only; omega), (But.set (p := b) (j := 1) (v := v1)).cell (q := ⟨g, i * 5 + j, none⟩) (by rw [s]; exact l0) (by simp only; omega), (But.set (p := b) (j := 0) (v := v0)).cell (q := ⟨g, i * 5 + j, none⟩) l0 (by simp only; omega)]
  exact h.cell i t ht j v hv

/-- what Over tells of a text -/
def PostO (s : ByteArray) (w : World) (e : Ending) (w' : World) : Prop :=
  Below w.heap.size w w' ∧ (if (toksF s.data.toList).2.1 = 0 then ∃ p c g, e = .returned (.tuple #[.agg #[.slice p (toksF s.data.toList).1.length c, .int .i64 (s.size : Int)], .agg #[.int .i64 0, .int .i64 0]]) ∧ (toksF s.data.toList).1.length ≤ c ∧ (0 < (toksF s.data.toList).1.length → p = some ⟨g, 0, none⟩) ∧ TKS w' g (toksF s.data.toList).1
    else e = .returned (.tuple #[.agg #[.slice none 0 0, .int .i64 0], .agg #[.int .i64 (toksF s.data.toList).2.1, .int .i64 ((toksF s.data.toList).2.2 : Int)]]))

theorem res_over {W : World} {b c : Nat} {u0 u1 v0 v1 : Value} (tmps : Array Value) (K : Bx2 W b u0 u1) (L : Bx2 W c v0 v1) (h2 : tmps.getD 2 undef = .pointer (some ⟨b, 0, none⟩)) (h3 : tmps.getD 3 undef = .pointer (some ⟨c, 0, none⟩)) :
    (results Tryz.f15 tmps).run Tryz.prog W = .ok (.tuple #[.agg #[u0, u1], .agg #[v0, v1]]) W := by
  have k0 := K.at0
  have k1 := K.at1
  have l0 := L.at0
  have l1 := L.at1
  simp only [Array.getD_eq_getD_getElem?] at h2 h3
  simp [results, Tryz.results15, go_sem, h2, h3, k0, k1, l0, l1]

set_option maxRecDepth 100000 in
set_option maxHeartbeats 8000000 in
theorem over_txt (s : ByteArray) (w : World) (hL : LT w) (hS : SG w) : Calls Tryz.prog 15 #[.string s] w (PostO s w) := by
  obtain ⟨w0, hw0⟩ : ∃ w0, w0 = (w.alloc (.cells #[.slice none 0 0, .int .i64 0] 56)).alloc (.cells #[.int .i64 0, .int .i64 0] 35) := ⟨_, rfl⟩
  have B0 : Below w.heap.size w w0 := by rw [hw0]; exact below_via (vbelow_new _ _) (vbelow_new _ _)
  have X0 : Bx2 w0 w.heap.size (.slice none 0 0) (.int .i64 0) := by rw [hw0]; exact (Bx2.new w 56 _ _).keep (vbelow_new _ _) (by simp)
  have F0 : Bx2 w0 (w.heap.size + 1) (.int .i64 0) (.int .i64 0) := by rw [hw0]; have := Bx2.new (w.alloc (.cells #[.slice none 0 0, .int .i64 0] 56)) 35 (.int .i64 0) (.int .i64 0); simpa using this
  have TK := hide (tokens_of' s w0 (hL.on B0) (hS.on B0))
  have z0 : w0.heap.size = w.heap.size + 2 := by rw [hw0]; simp
  obtain ⟨T, hT⟩ : ∃ T, T = toksF s.data.toList := ⟨_, rfl⟩
  have HP : Hid (∀ e w', (Below w.heap.size w w' ∧ (if T.2.1 = 0 then ∃ p c g, e = .returned (.tuple #[.agg #[.slice p T.1.length c, .int .i64 (s.size : Int)], .agg #[.int .i64 0, .int .i64 0]]) ∧ T.1.length ≤ c ∧ (0 < T.1.length → p = some ⟨g, 0, none⟩) ∧ TKS w' g T.1
    else e = .returned (.tuple #[.agg #[.slice none 0 0, .int .i64 0], .agg #[.int .i64 T.2.1, .int .i64 (T.2.2 : Int)]]))) → PostO s w e w') := hide (fun e w' q => by unfold PostO; rw [← hT]; exact q)
  rw [← hT] at TK
  obtain ⟨l, er, at'⟩ := T
  simp only at TK HP
  have HX0 := hide X0
  have HF0 := hide F0
  have HB0 := hide B0
  have HZ := hide z0
  clear hT hL hS X0 F0 B0 z0
  go_enter Tryz.func15, Tryz.ntmps15
  go_upto_region 1 with fail
  rw [← hw0]
  clear hw0
  go_wp2_with fail
  refine (unhide TK).mono ?_
  rintro en w1 ⟨⟨sv, rfl, hm⟩, hb1⟩
  have hz0 := unhide HZ
  have hz1 := hb1.size
  obtain ⟨p, c, g, rfl, hc, hp, ht, hgB, hg0⟩ := hm.row (by omega)
  obtain ⟨w2, hw2⟩ : ∃ w2, w2 = w1.alloc (.cells #[.int .i64 er, .int .i64 (at' : Int)] 35) := ⟨_, rfl⟩
  have B2 : Below w1.heap.size w1 w2 := by rw [hw2]; exact vbelow_new _ _
  have E2 : Bx2 w2 w1.heap.size (.int .i64 er) (.int .i64 (at' : Int)) := by rw [hw2]; exact Bx2.new _ _ _ _
  have b02 := below_via hb1 B2
  have X2 := (unhide HX0).keep b02 (by omega)
  have F2 := (unhide HF0).keep b02 (by omega)
  have HB2 := hide (below_via (unhide HB0) b02)
  have HT := hide (ht.keep B2 ht.low)
  have HGB := hide hgB
  have HG0 := hide hg0
  have HC := hide hc
  have HPP := hide hp
  have n1 : ¬ w.heap.size = w1.heap.size := by omega
  have n2 : ¬ w.heap.size + 1 = w1.heap.size := by omega
  obtain ⟨e0, e1⟩ : w2.cell? ⟨w1.heap.size, 0, none⟩ = some (.int .i64 er) ∧ w2.cell? ⟨w1.heap.size, 1, none⟩ = some (.int .i64 (at' : Int)) := ⟨E2.at0, E2.at1⟩
  obtain ⟨xl, x0, x1, xf0, xf1⟩ := id X2
  obtain ⟨fl, f0, f1, ff0, ff1⟩ := id F2
  have HX2 := hide X2
  have HF2 := hide F2
  clear hm TK hc hp ht hgB hg0 hz0 hz1 B2 E2 b02 X2 F2 hb1
  by_cases q : er = 0
  · have gq : (er != 0) = false := by simpa using q
    have HQ := hide q
    have N2 : Hid (¬ w.heap.size + 1 = w.heap.size) := hide (by omega)
    have HXF : Hid (Bx2 ((((w2.setCell ⟨w.heap.size, 0, none⟩ (.slice p l.length c)).setCell ⟨w.heap.size, 1, none⟩ (.int .i64 (s.size : Int))).setCell ⟨w.heap.size + 1, 0, none⟩ (.int .i64 0)).setCell ⟨w.heap.size + 1, 1, none⟩ (.int .i64 0)) w.heap.size (.slice p l.length c) (.int .i64 (s.size : Int))) := hide (((((unhide HX2).put _ _).other (by omega) _ _)).other (by omega) _ _)
    have HFF : Hid (Bx2 ((((w2.setCell ⟨w.heap.size, 0, none⟩ (.slice p l.length c)).setCell ⟨w.heap.size, 1, none⟩ (.int .i64 (s.size : Int))).setCell ⟨w.heap.size + 1, 0, none⟩ (.int .i64 0)).setCell ⟨w.heap.size + 1, 1, none⟩ (.int .i64 0)) (w.heap.size + 1) (.int .i64 0) (.int .i64 0)) := hide ((((unhide HF2).other (by omega) _ _).other (by omega) _ _).put _ _)
    clear q
    go_upto_region 2 with fail
    rw [← hw2]
    clear hw2
    go_wp2
    refine bodyPost_ret (res_over _ (unhide HXF) (unhide HFF) rfl rfl) rfl (unhide HP _ _ ⟨?_, ?_⟩)
    · exact ((((unhide HB2).setCell (p := ⟨w.heap.size, 0, none⟩) (Nat.le_refl _) _).setCell (p := ⟨w.heap.size, 1, none⟩) (Nat.le_refl _) _).setCell (p := ⟨w.heap.size + 1, 0, none⟩) (Nat.le_succ _) _).setCell (p := ⟨w.heap.size + 1, 1, none⟩) (Nat.le_succ _) _
    · rw [if_pos (unhide HQ)]
      exact ⟨p, c, g, rfl, unhide HC, unhide HPP, (unhide HT).sets (fun h => by have := unhide HGB h; have := unhide HZ; omega)⟩
  · have gq : (er != 0) = true := by simpa using q
    have HQ := hide q
    have HXF : Hid (Bx2 ((((w2.setCell ⟨w.heap.size, 0, none⟩ (.slice none 0 0)).setCell ⟨w.heap.size, 1, none⟩ (.int .i64 0)).setCell ⟨w.heap.size + 1, 0, none⟩ (.int .i64 er)).setCell ⟨w.heap.size + 1, 1, none⟩ (.int .i64 (at' : Int))) w.heap.size (.slice none 0 0) (.int .i64 0)) := hide (((((unhide HX2).put _ _).other (by omega) _ _)).other (by omega) _ _)
    have HFF : Hid (Bx2 ((((w2.setCell ⟨w.heap.size, 0, none⟩ (.slice none 0 0)).setCell ⟨w.heap.size, 1, none⟩ (.int .i64 0)).setCell ⟨w.heap.size + 1, 0, none⟩ (.int .i64 er)).setCell ⟨w.heap.size + 1, 1, none⟩ (.int .i64 (at' : Int))) (w.heap.size + 1) (.int .i64 er) (.int .i64 (at' : Int))) := hide ((((unhide HF2).other (by omega) _ _).other (by omega) _ _).put _ _)
    clear q
    go_upto_region 2 with fail
    rw [← hw2]
    clear hw2
    go_upto_region 3 with fail
    go_region
    go_wp2
    refine bodyPost_ret (res_over _ ((unhide HXF).keep (Below.refl _ _).drew (unhide HXF).low) ((unhide HFF).keep (Below.refl _ _).drew (unhide HFF).low) rfl rfl) rfl (unhide HP _ _ ⟨?_, ?_⟩)
    · exact (((((unhide HB2).setCell (p := ⟨w.heap.size, 0, none⟩) (Nat.le_refl _) _).setCell (p := ⟨w.heap.size, 1, none⟩) (Nat.le_refl _) _).setCell (p := ⟨w.heap.size + 1, 0, none⟩) (Nat.le_succ _) _).setCell (p := ⟨w.heap.size + 1, 1, none⟩) (Nat.le_succ _) _).drew
    · rw [if_neg (unhide HQ)]
end Go.Proofs.YthpjejfgoohhfaaGreatDoor

/- Walks: whole. -/
namespace Go.Proofs.YthpjejfgoohhfaaGreatDoor
open Go.RowKit Go.MapKept

theorem end_rd {w : World} {R g m : Nat} {l : List Tk} {e : Int} {o i : Nat} (h : RD w R g m l e o i) : Calls Tryz.prog 27 #[.pointer (some ⟨R, 0, none⟩)] w fun r w' => ∃ v, r = .returned v ∧ Below w.heap.size w w' ∧ (if i < l.length then UV 2 v else v = .nilIface) := by
  by_cases q : i < l.length
  · refine (end_no R g i e l w h.wk h.tk q).mono fun _ _ p => ?_
    obtain ⟨⟨v, q1, q2⟩, q3⟩ := p
    refine ⟨v, q1, q3, ?_⟩
    rw [if_pos q]
    exact q2
  · have hi : i = l.length := by have := h.wk.le; omega
    subst hi
    refine (end_any R g l.length e w h.wk).mono fun _ _ p => ?_
    refine ⟨_, p.1, by rw [p.2]; exact Below.refl _ _, ?_⟩
    rw [if_neg q]

theorem res_whole {W : World} {b : Nat} {v0 v1 v2 v3 v4 v5 v6 v7 v8 err : Value} (tmps : Array Value) (K : K9 W b) (h2 : tmps.getD 2 undef = .pointer (some ⟨b, 0, none⟩)) (h3 : tmps.getD 3 undef = err) :
    (results Tryz.f17 tmps).run Tryz.prog (put9 W b v0 v1 v2 v3 v4 v5 v6 v7 v8) = .ok (.tuple #[.agg #[v0, v1, v2, v3, v4, v5, v6, v7, v8], err]) (put9 W b v0 v1 v2 v3 v4 v5 v6 v7 v8) := by
  obtain ⟨u0, u1, u2, u3, u4, u5, u6, u7, u8, c0, c1, c2, c3, c4, c5, c6, c7, c8, _⟩ := K.all
  simp only [Array.getD_eq_getD_getElem?] at h2 h3
  unfold put9
  simp [results, Tryz.results17, go_sem, h2, h3, c0, c1, c2, c3, c4, c5, c6, c7, c8]

/-- all of a text -/
def wholeF (l : List Tk) (r : PR) : PR := onOk r fun x j => if j < l.length then (2, noX, j) else (0, x, j)

set_option maxRecDepth 100000 in
set_option maxHeartbeats 8000000 in
theorem whole_any {w : World} {R g m : Nat} {l : List Tk} {e : Int} {o i : Nat} (h : RD w R g m l e o i) (y : PR)
    (hE : ∀ W, RD W R g m l e o i → Calls Tryz.prog 26 #[.pointer (some ⟨R, 0, none⟩)] W (PostX R g m l e o i y W)) :
    Calls Tryz.prog 17 #[.pointer (some ⟨R, 0, none⟩)] w (PostX R g m l e o i (wholeF l y) w) := by
  obtain ⟨w0, hw0⟩ : ∃ w0, w0 = w.alloc (.cells zero9 29) := ⟨_, rfl⟩
  have B0 : Below w.heap.size w w0 := by rw [hw0]; exact vbelow_new _ _
  have K0 : K9 w0 w.heap.size := by rw [hw0]; exact K9.new w 29 _ _ _ _ _ _ _ _ _
  have z0 : w0.heap.size = w.heap.size + 1 := by rw [hw0]; simp
  obtain ⟨final, hfin⟩ : ∃ final, final = wholeF l y := ⟨_, rfl⟩
  rw [← hfin]
  have HF := hide hfin
  have HH := hide h
  have HB0 := hide (But.of (p := R) B0)
  have HK := hide K0
  have HZ1 : Hid (w.heap.size < w0.heap.size) := hide (by omega)
  have C6 := hide (hE w0 (h.keep B0))
  have lR := h.low
  clear h B0 K0 z0 hE hfin
  go_enter Tryz.func17, Tryz.ntmps17
  go_upto_region 1 with fail
  rw [← hw0]
  clear hw0
  go_wp2_with fail
  refine (unhide C6).mono ?_
  rintro en w6 ⟨hb6, cs, err, j, rfl, h9, hr6, hij, hres⟩
  obtain ⟨k, vk, vy, vc, vx, vt, va, vn, vp, s, xa, xn, xc, rfl⟩ := h9
  obtain ⟨w7, hw7⟩ : ∃ w7, w7 = w6.alloc (.cells #[.int .i64 k, .int .i64 vk, .bool vy, .int .i64 vc, .int .i64 vx, .string vt, .slice va vn vp, .string s, .slice xa xn xc] 29) := ⟨_, rfl⟩
  have B7 : Below w6.heap.size w6 w7 := by rw [hw7]; exact vbelow_new _ _
  have V7 : V9 w7 w6.heap.size (.int .i64 k) (.int .i64 vk) (.bool vy) (.int .i64 vc) (.int .i64 vx) (.string vt) (.slice va vn vp) (.string s) (.slice xa xn xc) := by rw [hw7]; exact V9.new _ _ _ _ _ _ _ _ _ _ _
  have HK7 := hide (((unhide HK).but hb6 (by omega)).keep B7)
  have HB7 := hide (((unhide HB0).trans hb6).trans (But.of B7))
  have HZ6 : Hid (w.heap.size < w6.heap.size) := hide (Nat.lt_of_lt_of_le (unhide HZ1) hb6.size)
  have HR7 := hide (hr6.keep B7)
  have HIJ : Hid (i ≤ j) := hide (by omega)
  by_cases q : y.1 = 0
  case neg =>
    rw [if_neg q] at hres
    obtain ⟨qq, rfl⟩ := err_ne hres
    have HU : Hid (UV final.1 _) := hide (by rw [unhide HF, wholeF, onOk_no q]; exact hres)
    have HN1 : Hid (final.1 ≠ 0) := hide (by rw [unhide HF, wholeF, onOk_no q]; exact q)
    obtain ⟨u0, u1, u2, u3, u4, u5, u6, u7, u8, c0, c1, c2, c3, c4, c5, c6, c7, c8, f⟩ := (unhide HK7).all
    have l7 := (unhide HK7).low
    clear hres q hb6 hr6 hij B7 V7 C6
    go_upto_region 2 with fail
    rw [← hw7]
    clear hw7
    go_wp2
    refine bodyPost_ret (res_whole _ (unhide HK7) rfl rfl) rfl ?_
    exact PostX.none (w0 := w7) (unhide HH) (unhide HB7) (But.refl _ _) (unhide HR7) (unhide HIJ) (Nat.le_refl _) ⟨_, _, _, _, _, _, _, _, _, _, _, _, _, rfl⟩ (unhide HN1) (unhide HU)
  case pos =>
    rw [if_pos q] at hres
    obtain ⟨rfl, rfl, hxb⟩ := hres
    have HX := hide (hxb.keep B7)
    have HF2 : Hid (final = if y.2.2 < l.length then (2, noX, y.2.2) else (0, y.2.1, y.2.2)) := hide (by rw [unhide HF, wholeF]; unfold onOk; rw [if_pos q])
    have ND : Hid (∀ wx, Below w7.heap.size w7 wx → Calls Tryz.prog 27 #[.pointer (some ⟨R, 0, none⟩)] wx fun r w' => ∃ v, r = .returned v ∧ Below wx.heap.size wx w' ∧ (if y.2.2 < l.length then UV 2 v else v = .nilIface)) := hide (fun wx hb => end_rd ((unhide HR7).keep hb))
    have HV7 := hide V7
    obtain ⟨a0, a1, a2, a3, a4, a5, a6, a7, a8⟩ := V7.tell
    have HL7 : Hid (w6.heap.size < w7.heap.size) := hide V7.low
    clear hxb q hb6 hr6 hij B7 V7 C6 HF
    go_upto_region 4 with fail
    rw [← hw7]
    clear hw7
    go_region_with (go_at_call 27; (with_reducible refine (unhide ND _ (by repeat (first | with_reducible exact Below.refl _ _ | with_reducible apply Below.drew))).mono ?_); rintro en w8 ⟨v, rfl, hb8, hv⟩; have hbb : Below w7.heap.size w7 w8 := below_via (Below.refl w7.heap.size w7).drew hb8; obtain ⟨u0, u1, u2, u3, u4, u5, u6, u7, u8, c0, c1, c2, c3, c4, c5, c6, c7, c8, f⟩ := ((unhide HK7).keep hbb).all; have l8 := ((unhide HK7).keep hbb).low; obtain ⟨d0, d1, d2, d3, d4, d5, d6, d7, d8⟩ := ((unhide HV7).keep hbb (unhide HL7)).tell; clear hb8)
    all_goals
      have HK8 := hide ((unhide HK7).keep hbb)
      have HR8 := hide ((unhide HR7).keep hbb)
      have HB8 := hide ((unhide HB7).trans (But.of hbb))
      have HXB := hide ((unhide HX).keep hbb)
      have HV := hide hv
      clear hv hbb
      go_wp2
      refine bodyPost_ret (res_whole _ (unhide HK8) rfl rfl) rfl ?_
      refine PostX.end (unhide HH) (unhide HB8) (unhide HR8) (unhide HIJ) put9_but (put9_below (Nat.le_refl _)) (Nat.le_refl _) ⟨_, _, _, _, _, _, _, _, _, _, _, _, _, rfl⟩ ?_
      have hv := unhide HV
      rw [unhide HF2]
      by_cases q : y.2.2 < l.length
      · rw [if_pos q] at hv
        rw [if_pos q, if_neg (by simp)]
        exact hv
      · rw [if_neg q] at hv
        rw [if_neg q, if_pos rfl]
        have p : But w.heap.size w8 (put9 w8 w.heap.size (.int .i64 k) (.int .i64 vk) (.bool vy) (.int .i64 vc) (.int .i64 vx) (.string vt) (.slice va vn vp) (.string s) (.slice xa xn xc)) := put9_but
        exact ⟨hv, rfl, ((unhide HXB).stay p.size fun b' hb' (hp : w0.heap.size ≤ b') => p.block b' hb' (by have := unhide HZ1; omega)).mono fun b' _ (hp : w0.heap.size ≤ b') => by have := unhide HZ1; omega⟩
end Go.Proofs.YthpjejfgoohhfaaGreatDoor
