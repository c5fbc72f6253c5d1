/- Walks: piece. (Written by mk_pw.py.) -/
import Derived.Test.YthpjejfgoohhfaaGreatDoorG31
import Derived.Deep.RegionHeld2
namespace Go.Proofs.YthpjejfgoohhfaaGreatDoor
open Go.RowKit Go.MapKept

/-- what is wrong with a value -/
def vwF (T : Tree) : Int := (wrongF T 0 1).1

theorem meant_next {l : List Tk} {i : Nat} {e k c x a : Int} {t : ByteArray} (h : nextV l i e = #[.int .i64 k, .string t, .int .i64 c, .int .i64 x, .int .i64 a]) : meantT k t c x = (l[i]?).bind meantF := by
  unfold nextV at h
  cases hl : l[i]? with
  | none =>
    rw [hl] at h
    simp only [endV, Array.mk.injEq, List.cons.injEq, Value.int.injEq, Value.string.injEq, true_and, and_true] at h
    obtain ⟨rfl, rfl, rfl, rfl, _⟩ := h
    exact meantT_end
  | some u =>
    rw [hl] at h
    simp only [tokV, Array.mk.injEq, List.cons.injEq, Value.int.injEq, Value.string.injEq, true_and, and_true] at h
    obtain ⟨rfl, rfl, rfl, rfl, _⟩ := h
    exact meantT_tok u

theorem meantF_form {l : List Tk} (htx : ∀ t ∈ l, t.t.length ≤ 9223372036854775807) {i : Nat} {v : Tree} (h : (l[i]?).bind meantF = some v) : i < l.length ∧ ∃ (vk : Int) (vy : Bool) (vc vx : Int) (vt : ByteArray), v = .mk vk vy vc vx vt [] ∧ vt.size ≤ 9223372036854775807 := by
  cases hl : l[i]? with
  | none => rw [hl] at h; cases h
  | some t =>
    rw [hl] at h
    simp only [Option.bind_some] at h
    obtain ⟨hi, he⟩ := List.getElem?_eq_some_iff.1 hl
    refine ⟨hi, ?_⟩
    have ht := htx t (he ▸ List.getElem_mem hi)
    unfold meantF at h
    split at h
    · cases h; exact ⟨_, _, _, _, _, rfl, by decide⟩
    · split at h
      · cases h; exact ⟨_, _, _, _, _, rfl, by simpa [ByteArray.size] using ht⟩
      · split at h
        · split at h
          · cases h; exact ⟨_, _, _, _, _, rfl, by decide⟩
          · split at h
            · cases h; exact ⟨_, _, _, _, _, rfl, by decide⟩
            · split at h
              · cases h; exact ⟨_, _, _, _, _, rfl, by decide⟩
              · cases h
        · cases h

/-- a bracket behind an expression -/
theorem PostX.need {R g m b : Nat} {l : List Tk} {e : Int} {o i j : Nat} {w w0 w8 : World} {final : PR} {x : XT} {v0 v1 v2 v3 v4 v5 v6 v7 v8 err : Value} (h : RD w R g m l e o i) (hb : But R w w8) (hij : i ≤ j) (hbl : w.heap.size ≤ b) (hb1 : b < w0.heap.size) (h9 : X9 #[v0, v1, v2, v3, v4, v5, v6, v7, v8]) (hx : XB (w0.heap.size ≤ ·) w8 x #[v0, v1, v2, v3, v4, v5, v6, v7, v8])
    (hf : final = if seesT l j [41] = true then (0, x, j + 1) else (2, noX, j)) (hv : if seesT l j [41] = true then err = .nilIface ∧ RD w8 R g m l e o (j + 1) else UV 2 err ∧ RD w8 R g m l e o j) :
    PostX R g m l e o i final w (.returned (.tuple #[.agg #[v0, v1, v2, v3, v4, v5, v6, v7, v8], err])) (put9 w8 b v0 v1 v2 v3 v4 v5 v6 v7 v8) := by
  by_cases q : seesT l j [41] = true
  · rw [if_pos q] at hf hv
    subst hf
    refine PostX.end h hb hv.2 (by omega) put9_but (put9_below hbl) hbl h9 ?_
    rw [if_pos rfl]
    have p : But b w8 (put9 w8 b v0 v1 v2 v3 v4 v5 v6 v7 v8) := put9_but
    refine ⟨hv.1, rfl, (hx.stay p.size fun b' hb' (hp : w0.heap.size ≤ b') => p.block b' hb' (by omega)).mono fun b' _ (hp : w0.heap.size ≤ b') => ?_⟩
    omega
  · rw [if_neg q] at hf hv
    subst hf
    refine PostX.end h hb hv.2 hij put9_but (put9_below hbl) hbl h9 ?_
    rw [if_neg (show ¬ ((2 : Int), noX, j).1 = 0 by simp)]
    exact hv.1

theorem res_piece {W : World} {b : Nat} {v0 v1 v2 v3 v4 v5 v6 v7 v8 err : Value} (tmps : Array Value) (K : K9 W b) (h2 : tmps.getD 2 undef = .pointer (some ⟨b, 0, none⟩)) (h3 : tmps.getD 3 undef = err) :
    (results Tryz.f94 tmps).run Tryz.prog (put9 W b v0 v1 v2 v3 v4 v5 v6 v7 v8) = .ok (.tuple #[.agg #[v0, v1, v2, v3, v4, v5, v6, v7, v8], err]) (put9 W b v0 v1 v2 v3 v4 v5 v6 v7 v8) := by
  obtain ⟨u0, u1, u2, u3, u4, u5, u6, u7, u8, c0, c1, c2, c3, c4, c5, c6, c7, c8, _⟩ := K.all
  simp only [Array.getD_eq_getD_getElem?] at h2 h3
  unfold put9
  simp [results, Tryz.results94, go_sem, h2, h3, c0, c1, c2, c3, c4, c5, c6, c7, c8]

set_option maxRecDepth 100000 in
set_option maxHeartbeats 16000000 in
theorem piece_any {w : World} {R g m : Nat} {l : List Tk} {e : Int} {o i : Nat} (h : RD w R g m l e o i) (N : Nat) (hN : 12 * (l.length - i) + 1 ≤ N + 1)
    (hE : ∀ n j W, i < j → 12 * (l.length - j) + 11 ≤ n → n ≤ N + 1 → RD W R g m l e o j → Calls Tryz.prog 26 #[.pointer (some ⟨R, 0, none⟩)] W (PostX R g m l e o j ((ps l vwF n).E o j) W)) :
    Calls Tryz.prog 94 #[.pointer (some ⟨R, 0, none⟩)] w (PostX R g m l e o i (pF l vwF (ps l vwF (N + 1)) o i) w) := by
  obtain ⟨w0, hw0⟩ : ∃ w0, w0 = w.alloc (.cells zero9 29) := ⟨_, rfl⟩
  have B0 : Below w.heap.size w w0 := by rw [hw0]; exact vbelow_new _ _
  have K0 : K9 w0 w.heap.size := by rw [hw0]; exact K9.new w 29 _ _ _ _ _ _ _ _ _
  have z0 : w0.heap.size = w.heap.size + 1 := by rw [hw0]; simp
  have R0 := h.keep B0
  have NX := hide (nextTok_any R g i e l w0 R0.wk R0.tk)
  obtain ⟨tk, tt, tc, tx, ta, hv⟩ := nextV_form l i e
  have HMN := hide (meant_next hv)
  rw [hv] at NX
  have MT := hide (fun wx => meant_any tk tc tx ta tt wx)
  obtain ⟨final, hfin⟩ : ∃ final, final = pF l vwF (ps l vwF (N + 1)) o i := ⟨_, rfl⟩
  rw [← hfin]
  have HFN := hide hfin
  have HH := hide h
  have HB0 := hide B0
  have HK := hide K0
  have HZ1 : Hid (w.heap.size < w0.heap.size) := hide (by omega)
  have HEE := hide hE
  have HN := hide hN
  have HR0 := hide R0
  have lR := h.low
  clear h B0 K0 z0 hE hN hfin hv R0
  go_enter Tryz.func94, Tryz.ntmps94
  go_upto_region 1 with fail
  rw [← hw0]
  clear hw0
  go_wp2_with fail
  refine (unhide NX).mono ?_
  rintro en w1 ⟨rfl, hb1⟩
  have HB1 := hide hb1
  clear hb1 NX
  go_wp2_with fail
  refine (unhide MT w1).mono ?_
  rintro en w2 ⟨rfl, hb2⟩
  rw [unhide HMN]
  clear MT HMN
  rcases hmo : (l[i]?).bind meantF with _ | vv
  case some =>
    obtain ⟨hil, vk, vy, vc, vx, vt, rfl, hvt⟩ := meantF_form (unhide HH).tx hmo
    have HF : Hid (final = litR (.mk vk vy vc vx vt []) i) := hide (by rw [unhide HFN, pF, hmo]; rfl)
    simp only [valA, Option.isSome_some]
    obtain ⟨w3, hw3⟩ : ∃ w3, w3 = w2.alloc (.cells #[.int .i64 vk, .bool vy, .int .i64 vc, .int .i64 vx, .string vt, .slice none 0 0] 26) := ⟨_, rfl⟩
    have B3 : Below w0.heap.size w0 w3 := by rw [hw3]; exact below_via (below_via (unhide HB1) hb2) (vbelow_new _ _)
    have Y3 : V6 w3 w2.heap.size (.int .i64 vk) (.bool vy) (.int .i64 vc) (.int .i64 vx) (.string vt) (.slice none 0 0) := by rw [hw3]; exact V6.new w2 26 _ _ _ _ _ _
    have C3 := hide (literal_any ((unhide HR0).keep B3) hil vk vy vc vx vt hvt)
    rw [← unhide HF] at C3
    have HK3 := hide ((unhide HK).keep B3)
    have HB3 := hide (But.of (p := R) ((below_via (unhide HB0) B3)))
    have HZ3 : Hid (w.heap.size < w3.heap.size) := hide (Nat.lt_of_lt_of_le (unhide HZ1) B3.size)
    obtain ⟨y0, y1, y2, y3, y4, y5⟩ := Y3.tell
    clear B3 Y3 hmo hil hvt hb2 HF
    go_upto_region 2 with fail
    rw [← hw3]
    clear hw3
    go_wp2_with fail
    refine (unhide C3).mono ?_
    rintro en w9 ⟨hb9, cs, err, j, rfl, h9, hr9, hij, hres⟩
    obtain ⟨k, vk, vy, vc, vx, vt, va, vn, vp, s, xa, xn, xc, rfl⟩ := h9
    have HK9 := hide ((unhide HK3).but hb9 (by omega))
    have HB9 := hide hb9
    have HR9 := hide hr9
    have HS := hide hres
    have HI := hide hij
    obtain ⟨u0, u1, u2, u3, u4, u5, u6, u7, u8, c0, c1, c2, c3, c4, c5, c6, c7, c8, f⟩ := (unhide HK9).all
    have l9 := (unhide HK9).low
    clear hb9 hr9 hres hij C3 HK3
    go_wp2
    refine bodyPost_ret (res_piece _ (unhide HK9) rfl rfl) rfl ?_
    exact PostX.via (b := w.heap.size) (unhide HH) (unhide HB3) (unhide HB9) (unhide HR9) (unhide HI) (Nat.le_refl _) ⟨_, _, _, _, _, _, _, _, _, _, _, _, _, rfl⟩ (unhide HS) (Nat.le_refl _) (unhide HZ3)
  case none =>
    simp only [valA, Option.isSome_none]
    obtain ⟨w3, hw3⟩ : ∃ w3, w3 = w2.alloc (.cells #[.int .i64 0, .bool false, .int .i64 0, .int .i64 0, .string ⟨#[]⟩, .slice none 0 0] 26) := ⟨_, rfl⟩
    have B3 : Below w0.heap.size w0 w3 := by rw [hw3]; exact below_via (below_via (unhide HB1) hb2) (vbelow_new _ _)
    have HK3 := hide ((unhide HK).keep B3)
    have HB3 := hide (But.of (p := R) (below_via (unhide HB0) B3))
    have HZ3 : Hid (w.heap.size < w3.heap.size) := hide (Nat.lt_of_lt_of_le (unhide HZ1) B3.size)
    have HR3 := hide ((unhide HR0).keep B3)
    have HFM : Hid (final = if seesT l i [40] = true then onOk ((ps l vwF (N + 1)).E o (i + 1)) fun x j => if seesT l j [41] = true then (0, x, j + 1) else (2, noX, j)
      else if seesT l i [91] = true then onOkL ((ps l vwF (N + 1)).L [93] 200 o [] (i + 1)) fun ks j => (0, xN 19 ks, j)
      else if (nmF l i).1 ≠ 0 then ((nmF l i).1, noX, i)
      else if seesT l (i + 1) [40] = true then onOkL ((ps l vwF (N + 1)).L [41] 8 o [] (i + 2)) fun ks j => (0, xM 18 (nmF l i).2 ks, j)
      else (0, xM 2 (nmF l i).2 [], i + 1)) := hide (by rw [unhide HFN, pF, hmo])
    clear B3 hmo hb2 HFN HB1 HR0
    go_upto_region 4 with fail
    rw [← hw3]
    clear hw3
    have TK := hide (take_rd (unhide HR3) ⟨#[40]⟩ w3.heap.size rfl)
    have eW : seesT l i (⟨#[40]⟩ : ByteArray).data.toList = seesT l i [40] := rfl
    rw [eW] at TK
    clear eW
    go_wp2_with fail
    refine (unhide TK).mono ?_
    rintro en w4 ⟨rfl, hbx, hrx⟩
    have HK4 := hide ((unhide HK3).but hbx (by omega))
    have HB4 := hide ((unhide HB3).trans hbx)
    have HZ4 : Hid (w.heap.size < w4.heap.size) := hide (Nat.lt_of_lt_of_le (unhide HZ3) hbx.size)
    rcases hs : seesT l i [40] with _ | _
    all_goals
      simp only [hs, Bool.false_eq_true, if_true, if_false] at hrx
      have HR4 := hide hrx
      have HS4 := hide hs
      clear hbx hrx TK hs HK3 HB3
    case true =>
      have hlt := seesT_lt (unhide HS4)
      have HF : Hid (final = onOk ((ps l vwF (N + 1)).E o (i + 1)) fun x j => if seesT l j [41] = true then (0, x, j + 1) else (2, noX, j)) := hide (by rw [unhide HFM, if_pos (unhide HS4)])
      have C6 := hide (unhide HEE (N + 1) (i + 1) w4 (by omega) (by have := unhide HN; omega) (Nat.le_refl _) (unhide HR4))
      generalize (ps l vwF (N + 1)).E o (i + 1) = y at C6 HF
      clear hlt HFM HEE HN
      go_wp2_with fail
      refine (unhide C6).mono ?_
      rintro en w6 ⟨hb6, cs, err, j, rfl, h9, hr6, hij, hres⟩
      obtain ⟨k, vk, vy, vc, vx, vt, va, vn, vp, s, xa, xn, xc, rfl⟩ := h9
      obtain ⟨w7, hw7⟩ : ∃ w7, w7 = w6.alloc (.cells #[.int .i64 k, .int .i64 vk, .bool vy, .int .i64 vc, .int .i64 vx, .string vt, .slice va vn vp, .string s, .slice xa xn xc] 29) := ⟨_, rfl⟩
      have B7 : Below w6.heap.size w6 w7 := by rw [hw7]; exact vbelow_new _ _
      have V7 : V9 w7 w6.heap.size (.int .i64 k) (.int .i64 vk) (.bool vy) (.int .i64 vc) (.int .i64 vx) (.string vt) (.slice va vn vp) (.string s) (.slice xa xn xc) := by rw [hw7]; exact V9.new _ _ _ _ _ _ _ _ _ _ _
      have HK7 := hide (((unhide HK4).but hb6 (by omega)).keep B7)
      have HB7 := hide (((unhide HB4).trans hb6).trans (But.of B7))
      have HZ6 : Hid (w.heap.size < w6.heap.size) := hide (Nat.lt_of_lt_of_le (unhide HZ4) hb6.size)
      have HZ67 : Hid (w6.heap.size < w7.heap.size) := hide (by rw [hw7]; simp)
      have HR7 := hide (hr6.keep B7)
      have HIJ : Hid (i ≤ j) := hide (by omega)
      by_cases q : y.1 = 0
      case neg =>
        rw [if_neg q] at hres
        obtain ⟨qq, rfl⟩ := err_ne hres
        have HU : Hid (UV final.1 _) := hide (by rw [unhide HF, onOk_no q]; exact hres)
        have HN1 : Hid (final.1 ≠ 0) := hide (by rw [unhide HF, onOk_no q]; exact q)
        obtain ⟨u0, u1, u2, u3, u4, u5, u6, u7, u8, c0, c1, c2, c3, c4, c5, c6, c7, c8, f⟩ := (unhide HK7).all
        have l7 := (unhide HK7).low
        clear hres q hb6 hr6 hij B7 V7 C6
        go_upto_region 6 with fail
        rw [← hw7]
        clear hw7
        go_wp2
        refine bodyPost_ret (res_piece _ (unhide HK7) rfl rfl) rfl ?_
        exact PostX.none (w0 := w7) (unhide HH) (unhide HB7) (But.refl _ _) (unhide HR7) (unhide HIJ) (Nat.le_refl _) ⟨_, _, _, _, _, _, _, _, _, _, _, _, _, rfl⟩ (unhide HN1) (unhide HU)
      case pos =>
        rw [if_pos q] at hres
        obtain ⟨rfl, rfl, hxb⟩ := hres
        have HX := hide (hxb.keep B7)
        have HF2 : Hid (final = if seesT l y.2.2 [41] = true then (0, y.2.1, y.2.2 + 1) else (2, noX, y.2.2)) := hide (by rw [unhide HF]; unfold onOk; rw [if_pos q])
        have ND : Hid (∀ wx, Below w7.heap.size w7 wx → Calls Tryz.prog 69 #[.pointer (some ⟨R, 0, none⟩), .string ⟨#[41]⟩] wx fun r w' => ∃ v, r = .returned v ∧ But R wx w' ∧ (if seesT l y.2.2 [41] = true then v = .nilIface ∧ RD w' R g m l e o (y.2.2 + 1) else UV 2 v ∧ RD w' R g m l e o y.2.2)) := hide (fun wx hb => need_rd ((unhide HR7).keep hb) ⟨#[41]⟩)
        have HV7 := hide V7
        obtain ⟨a0, a1, a2, a3, a4, a5, a6, a7, a8⟩ := V7.tell
        clear hxb q hb6 hr6 hij B7 V7 C6 HF
        go_upto_region 8 with fail
        rw [← hw7]
        clear hw7
        have HND : Hid (w6.heap.size ≠ R ∧ w6.heap.size ≠ w.heap.size) := hide (by have := unhide HZ6; omega)
        go_region_with (go_at_call 69; (with_reducible refine (unhide ND _ (by repeat (first | with_reducible exact Below.refl _ _ | with_reducible apply Below.drew))).mono ?_); rintro en w8 ⟨v, rfl, hb8, hv⟩; have hbb := (But.of (p := R) ((Below.refl w7.heap.size w7).drew)).trans hb8; obtain ⟨u0, u1, u2, u3, u4, u5, u6, u7, u8, c0, c1, c2, c3, c4, c5, c6, c7, c8, f⟩ := ((unhide HK7).but hbb (by omega)).all; have l8 := ((unhide HK7).but hbb (by omega)).low; obtain ⟨d0, d1, d2, d3, d4, d5, d6, d7, d8⟩ := ((unhide HV7).but hbb (unhide HND).1).tell; clear hb8)
        all_goals
          have HK8 := hide ((unhide HK7).but hbb (by omega))
          have HB8 := hide ((unhide HB7).trans hbb)
          have HXB := hide ((unhide HX).stay hbb.size fun b hb (hp : w4.heap.size ≤ b) => hbb.block b hb (by have := unhide HZ4; omega))
          have HV := hide hv
          clear hv hbb
          go_wp2
          refine bodyPost_ret (res_piece _ (unhide HK8) rfl rfl) rfl ?_
          exact PostX.need (unhide HH) (unhide HB8) (unhide HIJ) (Nat.le_refl _) (unhide HZ4) ⟨_, _, _, _, _, _, _, _, _, _, _, _, _, rfl⟩ (unhide HXB) (unhide HF2) (unhide HV)
    case false =>
      have TK := hide (take_rd (unhide HR4) ⟨#[91]⟩ w4.heap.size rfl)
      have eW : seesT l i (⟨#[91]⟩ : ByteArray).data.toList = seesT l i [91] := rfl
      rw [eW] at TK
      clear eW
      go_wp2_with fail
      refine (unhide TK).mono ?_
      rintro en w5 ⟨rfl, hbx, hrx⟩
      have HK5 := hide ((unhide HK4).but hbx (by omega))
      have HB5 := hide ((unhide HB4).trans hbx)
      have HZ5 : Hid (w.heap.size < w5.heap.size) := hide (Nat.lt_of_lt_of_le (unhide HZ4) hbx.size)
      rcases hs : seesT l i [91] with _ | _
      all_goals
        simp only [hs, Bool.false_eq_true, if_true, if_false] at hrx
        have HR5 := hide hrx
        have HS5 := hide hs
        clear hbx hrx TK hs HK4 HB4
      case true =>
        have hlt := seesT_lt (unhide HS5)
        have HF : Hid (final = onOkL ((ps l vwF (N + 1)).L [93] 200 o [] (i + 1)) fun ks j => (0, .mk 19 emptyV ⟨#[]⟩ ks, j)) := hide (by rw [unhide HFM, if_neg (by rw [unhide HS4]; simp), if_pos (unhide HS5)]; rfl)
        have C6 := hide (listed_any (unhide HR5) vwF ⟨#[93]⟩ 200 (by omega) N (by have := unhide HN; omega) (fun n j W hj => fun a b => unhide HEE n j W (by omega) a (by omega)))
        have e93 : (ps l vwF (N + 1)).L (⟨#[93]⟩ : ByteArray).data.toList 200 o [] (i + 1) = (ps l vwF (N + 1)).L [93] 200 o [] (i + 1) := rfl
        rw [e93] at C6
        generalize (ps l vwF (N + 1)).L [93] 200 o [] (i + 1) = rl at C6 HF
        clear hlt HFM HEE HN e93

        go_wp2_with fail
        refine (unhide C6).mono ?_
        rintro en w9 ⟨hb9, a, n, cap, err, j, rfl, hr9, hij9, hres9⟩
        have HK9 := hide ((unhide HK5).but hb9 (by omega))
        have HB9 := hide hb9
        have HR9 := hide hr9
        have HIJ : Hid (i ≤ j) := hide (by omega)
        have HRES := hide hres9
        obtain ⟨u0, u1, u2, u3, u4, u5, u6, u7, u8, c0, c1, c2, c3, c4, c5, c6, c7, c8, f⟩ := (unhide HK9).all
        have l9 := (unhide HK9).low
        clear hb9 hr9 hij9 hres9 C6
        go_wp2
        refine bodyPost_ret (res_piece _ (unhide HK9) rfl rfl) rfl ?_
        rw [unhide HF]
        exact PostX.node (unhide HH) (unhide HB5) (unhide HB9) (unhide HR9) (unhide HIJ) (by decide) (Nat.le_refl _) (unhide HZ5) (unhide HRES)
      case false =>
        have NM := hide (name_any (unhide HR5))
        have lR5 := (unhide HR5).low
        go_wp2_with fail
        refine (unhide NM).mono ?_
        rintro en w6 ⟨hb6, nm, err, j, rfl, hr6, hij, hres⟩
        have HK6 := hide ((unhide HK5).but hb6 (by omega))
        have HB6 := hide ((unhide HB5).trans hb6)
        have HZ6 : Hid (w.heap.size < w6.heap.size) := hide (Nat.lt_of_lt_of_le (unhide HZ5) hb6.size)
        have HR6 := hide hr6
        have HIJ := hide hij
        clear NM HK5 HB5 lR5 hr6 hb6 hij
        by_cases q : (nmF l i).1 = 0
        case neg =>
          rw [if_neg q] at hres
          obtain ⟨qq, rfl⟩ := err_ne hres
          have HE1 : Hid (final = ((nmF l i).1, noX, i)) := hide (by rw [unhide HFM, if_neg (by rw [unhide HS4]; simp), if_neg (by rw [unhide HS5]; simp), if_pos q])
          have HU : Hid (UV final.1 _) := hide (by rw [unhide HE1]; exact hres)
          have HN1 : Hid (final.1 ≠ 0) := hide (by rw [unhide HE1]; exact q)
          obtain ⟨u0, u1, u2, u3, u4, u5, u6, u7, u8, c0, c1, c2, c3, c4, c5, c6, c7, c8, f⟩ := (unhide HK6).all
          have l6 := (unhide HK6).low
          clear hres q HFM HE1
          go_wp2
          refine bodyPost_ret (res_piece _ (unhide HK6) rfl rfl) rfl ?_
          exact PostX.none (w0 := w6) (unhide HH) (unhide HB6) (But.refl _ _) (unhide HR6) (unhide HIJ) (Nat.le_refl _) ⟨_, _, _, _, _, _, _, _, _, _, _, _, _, rfl⟩ (unhide HN1) (unhide HU)
        case pos =>
          rw [if_pos q] at hres
          obtain ⟨rfl, rfl, hnm, hns⟩ := hres
          have HNS := hide hns
          have HFK : Hid (final = if seesT l (i + 1) [40] = true then onOkL ((ps l vwF (N + 1)).L [41] 8 o [] (i + 2)) fun ks j => (0, .mk 18 emptyV nm ks, j) else (0, .mk 2 emptyV nm [], i + 1)) := hide (by rw [unhide HFM, if_neg (by rw [unhide HS4]; simp), if_neg (by rw [unhide HS5]; simp), if_neg (fun c => c q), hnm]; rfl)
          clear hnm hns q HFM
          have lR6 := (unhide HR6).low
          have TK := hide (take_rd (unhide HR6) ⟨#[40]⟩ w6.heap.size rfl)
          have eW : seesT l (i + 1) (⟨#[40]⟩ : ByteArray).data.toList = seesT l (i + 1) [40] := rfl
          rw [eW] at TK
          clear eW
          go_wp2_with fail
          refine (unhide TK).mono ?_
          rintro en w7 ⟨rfl, hbx, hrx⟩
          have HK7 := hide ((unhide HK6).but hbx (by omega))
          have HB7 := hide ((unhide HB6).trans hbx)
          have HZ7 : Hid (w.heap.size < w7.heap.size) := hide (Nat.lt_of_lt_of_le (unhide HZ6) hbx.size)
          rcases hs : seesT l (i + 1) [40] with _ | _
          all_goals
            simp only [hs, Bool.false_eq_true, if_true, if_false] at hrx
            have HR7 := hide hrx
            have HS7 := hide hs
            clear hbx hrx TK hs HK6 HB6
          case true =>
            have hlt := seesT_lt (unhide HS7)
            have HF : Hid (final = onOkL ((ps l vwF (N + 1)).L [41] 8 o [] (i + 2)) fun ks j => (0, .mk 18 emptyV nm ks, j)) := hide (by rw [unhide HFK, if_pos (unhide HS7)])
            have C6 := hide (listed_any (unhide HR7) vwF ⟨#[41]⟩ 8 (by omega) N (by have := unhide HN; omega) (fun n j W hj => fun a b => unhide HEE n j W (by omega) a (by omega)))
            have e41 : (ps l vwF (N + 1)).L (⟨#[41]⟩ : ByteArray).data.toList 8 o [] (i + 1 + 1) = (ps l vwF (N + 1)).L [41] 8 o [] (i + 2) := rfl
            rw [e41] at C6
            generalize (ps l vwF (N + 1)).L [41] 8 o [] (i + 2) = rl at C6 HF
            clear hlt HFK HEE HN e41 lR6
            go_wp2_with fail
            refine (unhide C6).mono ?_
            rintro en w9 ⟨hb9, a, n, cap, err, j, rfl, hr9, hij9, hres9⟩
            have HK9 := hide ((unhide HK7).but hb9 (by omega))
            have HB9 := hide hb9
            have HR9 := hide hr9
            have HIJ : Hid (i ≤ j) := hide (by omega)
            have HRES := hide hres9
            obtain ⟨u0, u1, u2, u3, u4, u5, u6, u7, u8, c0, c1, c2, c3, c4, c5, c6, c7, c8, f⟩ := (unhide HK9).all
            have l9 := (unhide HK9).low
            clear hb9 hr9 hij9 hres9 C6
            go_wp2
            refine bodyPost_ret (res_piece _ (unhide HK9) rfl rfl) rfl ?_
            rw [unhide HF]
            exact PostX.node (unhide HH) (unhide HB7) (unhide HB9) (unhide HR9) (unhide HIJ) (by have := unhide HNS; omega) (Nat.le_refl _) (unhide HZ7) (unhide HRES)
          case false =>
            have HF : Hid (final = (0, .mk 2 emptyV nm [], i + 1)) := hide (by rw [unhide HFK, if_neg (by rw [unhide HS7]; simp)])
            obtain ⟨u0, u1, u2, u3, u4, u5, u6, u7, u8, c0, c1, c2, c3, c4, c5, c6, c7, c8, f⟩ := (unhide HK7).all
            have l7 := (unhide HK7).low
            clear HFK lR6
            go_wp2
            refine bodyPost_ret (res_piece _ (unhide HK7) rfl rfl) rfl ?_
            rw [unhide HF]
            refine PostX.end (unhide HH) (unhide HB7) (unhide HR7) (Nat.le_succ _) put9_but (put9_below (Nat.le_refl _)) (Nat.le_refl _) ⟨_, _, _, _, _, _, _, _, _, _, _, _, _, rfl⟩ ?_
            rw [if_pos rfl]
            exact ⟨rfl, rfl, XB.leaf (by have := unhide HNS; omega) (by decide)⟩
end Go.Proofs.YthpjejfgoohhfaaGreatDoor

/- Every reader of expressions, by one induction over the calls at hand. -/
namespace Go.Proofs.YthpjejfgoohhfaaGreatDoor
open Go.RowKit Go.MapKept

/-- what is promised with so many calls at hand -/
structure RA (R g m : Nat) (l : List Tk) (e : Int) (n : Nat) : Prop where
  E : ∀ o i W, o ≤ 200 → 12 * (l.length - i) + 11 ≤ n → RD W R g m l e o i → Calls Tryz.prog 26 #[.pointer (some ⟨R, 0, none⟩)] W (PostX R g m l e o i ((ps l vwF n).E o i) W)
  C : ∀ o i W q, o ≤ 200 → 12 * (l.length - i) + 10 ≤ n → RD W R g m l e o i → W.cell? ⟨q, 0, none⟩ = some (.pointer (some ⟨R, 0, none⟩)) → q ≠ R → Calls Tryz.prog 42 #[.pointer (some ⟨q, 0, none⟩)] W (PostX R g m l e o i ((ps l vwF n).C o i) W)
  J : ∀ (L : Int) o i W, 1 ≤ L → L ≤ 6 → o ≤ 200 → 12 * (l.length - i) + (10 - L).toNat ≤ n → RD W R g m l e o i → Calls Tryz.prog 47 #[.pointer (some ⟨R, 0, none⟩), .int .i64 L] W (PostX R g m l e o i ((ps l vwF n).J L o i) W)
  S : ∀ o i W, o ≤ 200 → 12 * (l.length - i) + 3 ≤ n → RD W R g m l e o i → Calls Tryz.prog 71 #[.pointer (some ⟨R, 0, none⟩)] W (PostX R g m l e o i ((ps l vwF n).S o i) W)
  P : ∀ o i W, o ≤ 200 → 12 * (l.length - i) + 2 ≤ n → RD W R g m l e o i → Calls Tryz.prog 94 #[.pointer (some ⟨R, 0, none⟩)] W (PostX R g m l e o i ((ps l vwF n).P o i) W)

theorem read_all (R g m : Nat) (l : List Tk) (e : Int) (n : Nat) : RA R g m l e n := by
  induction n using Nat.strongRecOn with
  | _ n ih =>
    match n, ih with
    | 0, _ => exact ⟨fun _ _ _ _ q => by omega, fun _ _ _ _ _ q => by omega, fun L _ _ _ _ _ _ q => by omega, fun _ _ _ _ q => by omega, fun _ _ _ _ q => by omega⟩
    | 1, _ => exact ⟨fun _ _ _ _ q => by omega, fun _ _ _ _ _ q => by omega, fun L _ _ _ _ _ _ q => by omega, fun _ _ _ _ q => by omega, fun _ _ _ _ q => by omega⟩
    | N + 2, ih =>
      have I1 := ih (N + 1) (by omega)
      refine ⟨?_, ?_, ?_, ?_, ?_⟩
      · intro o i W ho hn hr
        rw [ps_E]
        exact expression_any hr ho _ fun W' q ho1 hr' hc hq => I1.C (o + 1) i W' q ho1 (by omega) hr' hc hq
      · intro o i W q ho hn hr hc hq
        rw [ps_C]
        exact one_any hr hc hq vwF N (by omega) (fun n j W' _ hn' hnN hr' => (ih n (by omega)).E o j W' ho hn' hr') (fun W' hr' => I1.J 1 o i W' (by omega) (by omega) ho (by omega) hr')
      · intro L o i W h1 h6 ho hn hr
        by_cases q : L = 6
        · subst q
          rw [ps_J, jF, if_pos rfl]
          exact joined_six hr _ fun W' hr' => I1.S o i W' ho (by omega) hr'
        · exact joined_any hr vwF L (L + 1) h1 (by omega) rfl (N + 1) (by omega) (fun W' hr' => I1.J (L + 1) o i W' (by omega) (by omega) ho (by omega) hr') (fun n j W' _ hn' hnN hr' => (ih n (by omega)).J (L + 1) o j W' (by omega) (by omega) ho (by omega) hr')
      · intro o i W ho hn hr
        rw [ps_S, sF]
        by_cases q : seesT l i [45] = true
        · rw [if_pos q]
          exact signed_minus hr ho _ q fun W' ho1 hr' => I1.S (o + 1) (i + 1) W' ho1 (by have := seesT_lt q; omega) hr'
        · rw [if_neg q]
          exact signed_plain hr _ (by simpa using q) fun W' hr' => I1.P o i W' ho (by omega) hr'
      · intro o i W ho hn hr
        rw [ps_P]
        exact piece_any hr N (by omega) (fun n j W' hij hn' hnN hr' => (ih n (by omega)).E o j W' ho hn' hr')
end Go.Proofs.YthpjejfgoohhfaaGreatDoor
