/- Walks: loop. -/
import Derived.Test.YthpjejfgoohhfaaGreatDoorG30
namespace Go.Proofs.YthpjejfgoohhfaaGreatDoor
open Go.RowKit Go.MapKept

theorem onOkL_no {r : PL} {f : List XT → Nat → PR} (h : r.1 ≠ 0) : onOkL r f = (r.1, noX, r.2.2) := by unfold onOkL; rw [if_neg h]
theorem onOkL_yes {r : PL} {f : List XT → Nat → PR} (h : r.1 = 0) : onOkL r f = f r.2.1 r.2.2 := by unfold onOkL; rw [if_pos h]

/-- a node over expressions that were gathered -/
theorem PostX.node {R g m b : Nat} {l : List Tk} {e : Int} {o i j : Nat} {w w0 w2 : World} {rl : PL} {k : Int} {nm : ByteArray} {a : Option Addr} {n cap : Nat} {err : Value} (h : RD w R g m l e o i) (hb0 : But R w w0) (hb2 : But R w0 w2) (hr : RD w2 R g m l e o j) (hij : i ≤ j) (hnm : nm.size ≤ 9223372036854775807) (hbl : w.heap.size ≤ b) (hb1 : b < w0.heap.size)
    (hres : if rl.1 = 0 then err = .nilIface ∧ j = rl.2.2 ∧ n = rl.2.1.length ∧ n ≤ 1000 ∧ (rl.2.1 ≠ [] → ∃ b, a = some ⟨b, 0, none⟩ ∧ w0.heap.size ≤ b ∧ b < w2.heap.size ∧ XBL (w0.heap.size ≤ ·) w2 rl.2.1 b 0) else UV rl.1 err) :
    PostX R g m l e o i (onOkL rl fun ks j => (0, .mk k emptyV nm ks, j)) w (.returned (.tuple #[.agg #[.int .i64 k, .int .i64 0, .bool false, .int .i64 0, .int .i64 0, .string ⟨#[]⟩, .slice none 0 0, .string nm, .slice a n cap], err]))
      (put9 w2 b (.int .i64 k) (.int .i64 0) (.bool false) (.int .i64 0) (.int .i64 0) (.string ⟨#[]⟩) (.slice none 0 0) (.string nm) (.slice a n cap)) := by
  refine PostX.end h (hb0.trans hb2) hr hij put9_but (put9_below hbl) hbl ⟨_, _, _, _, _, _, _, _, _, _, _, _, _, rfl⟩ ?_
  have z0 := hb0.size
  by_cases q : rl.1 = 0
  · rw [if_pos q] at hres
    obtain ⟨q1, q2, q3, q4, q5⟩ := hres
    rw [onOkL_yes q, if_pos rfl]
    refine ⟨q1, q2, ?_⟩
    simp only
    rw [XB]
    refine ⟨hnm, by omega, 0, false, 0, 0, ⟨#[]⟩, a, cap, by rw [q3], rfl, by decide, fun hne => ?_⟩
    obtain ⟨b', p1, p2, p3, p4⟩ := q5 hne
    have p : But b w2 (put9 w2 b (.int .i64 k) (.int .i64 0) (.bool false) (.int .i64 0) (.int .i64 0) (.string ⟨#[]⟩) (.slice none 0 0) (.string nm) (.slice a n cap)) := put9_but
    exact ⟨b', 0, p1, Nat.lt_of_lt_of_le p3 p.size, by omega, XBL.mono (fun b'' _ (hp : w0.heap.size ≤ b'') => by omega) (p4.stay p.size (fun b'' hb'' (hp : w0.heap.size ≤ b'') => p.block b'' hb'' (by omega)) p3 p2)⟩
  · rw [if_neg q] at hres
    rw [onOkL_no q, if_neg q]
    exact hres

/-- what is wrong, and nothing read -/
theorem PostX.none {R g m b : Nat} {l : List Tk} {e : Int} {o i j : Nat} {w w0 w2 : World} {r : PR} {v0 v1 v2 v3 v4 v5 v6 v7 v8 err : Value} (h : RD w R g m l e o i) (hb0 : But R w w0) (hb2 : But R w0 w2) (hr : RD w2 R g m l e o j) (hij : i ≤ j) (hbl : w.heap.size ≤ b) (h9 : X9 #[v0, v1, v2, v3, v4, v5, v6, v7, v8]) (hr1 : r.1 ≠ 0) (hu : UV r.1 err) :
    PostX R g m l e o i r w (.returned (.tuple #[.agg #[v0, v1, v2, v3, v4, v5, v6, v7, v8], err])) (put9 w2 b v0 v1 v2 v3 v4 v5 v6 v7 v8) := by
  refine PostX.end h (hb0.trans hb2) hr hij put9_but (put9_below hbl) hbl h9 ?_
  rw [if_neg hr1]
  exact hu

theorem TXB.pair (w : World) (t : TypeId) (s1 s2 : ByteArray) : TXB (w.alloc (.cells #[.string s1, .string s2] t)) w.heap.size [s1, s2] := ⟨by simp, fun m x hx => by
  match m, hx with
  | 0, hx => simp at hx; subst hx; simp [go_sem]
  | 1, hx => simp at hx; subst hx; simp [go_sem]
  | k + 2, hx => simp at hx⟩
theorem TXB.three (w : World) (t : TypeId) (s1 s2 s3 : ByteArray) : TXB (w.alloc (.cells #[.string s1, .string s2, .string s3] t)) w.heap.size [s1, s2, s3] := ⟨by simp, fun m x hx => by
  match m, hx with
  | 0, hx => simp at hx; subst hx; simp [go_sem]
  | 1, hx => simp at hx; subst hx; simp [go_sem]
  | 2, hx => simp at hx; subst hx; simp [go_sem]
  | k + 3, hx => simp at hx⟩

theorem res_loop {W : World} {b : Nat} {v0 v1 v2 v3 v4 v5 v6 v7 v8 err : Value} (tmps : Array Value) (K : K9 W b) (h2 : tmps.getD 6 undef = .pointer (some ⟨b, 0, none⟩)) (h3 : tmps.getD 7 undef = err) :
    (results Tryz.f46 tmps).run Tryz.prog (put9 W b v0 v1 v2 v3 v4 v5 v6 v7 v8) = .ok (.tuple #[.agg #[v0, v1, v2, v3, v4, v5, v6, v7, v8], err]) (put9 W b v0 v1 v2 v3 v4 v5 v6 v7 v8) := by
  obtain ⟨u0, u1, u2, u3, u4, u5, u6, u7, u8, c0, c1, c2, c3, c4, c5, c6, c7, c8, _⟩ := K.all
  simp only [Array.getD_eq_getD_getElem?] at h2 h3
  unfold put9
  simp [results, Tryz.results46, go_sem, h2, h3, c0, c1, c2, c3, c4, c5, c6, c7, c8]

set_option maxRecDepth 100000 in
set_option maxHeartbeats 8000000 in
theorem loop_any {w : World} {R g m : Nat} {l : List Tk} {e : Int} {o i : Nat} (h : RD w R g m l e o i) (vw : Tree → Int) (kd : Int) (wd : ByteArray) (N : Nat) (hN : 12 * (l.length - i) ≤ N + 1)
    (hE : ∀ n j W, i ≤ j → 12 * (l.length - j) + 11 ≤ n → n ≤ N → RD W R g m l e o j → Calls Tryz.prog 26 #[.pointer (some ⟨R, 0, none⟩)] W (PostX R g m l e o j ((ps l vw n).E o j) W)) :
    Calls Tryz.prog 46 #[.pointer (some ⟨R, 0, none⟩), .int .i64 kd, .string wd] w (PostX R g m l e o i (lpF l (ps l vw (N + 1)) kd wd.data.toList o i) w) := by
  obtain ⟨w0, hw0⟩ : ∃ w0, w0 = w.alloc (.cells zero9 29) := ⟨_, rfl⟩
  have B0 : Below w.heap.size w w0 := by rw [hw0]; exact vbelow_new _ _
  have K0 : K9 w0 w.heap.size := by rw [hw0]; exact K9.new w 29 _ _ _ _ _ _ _ _ _
  have z0 : w0.heap.size = w.heap.size + 1 := by rw [hw0]; simp
  have NM := hide (name_any (h.keep B0))
  obtain ⟨final, hfin⟩ : ∃ final, final = lpF l (ps l vw (N + 1)) kd wd.data.toList o i := ⟨_, rfl⟩
  rw [← hfin]
  have HFN := hide hfin
  have HH := hide h
  have HB0 := hide B0
  have HK := hide K0
  have HZ1 : Hid (w.heap.size < w0.heap.size) := hide (by omega)
  have CB := hide (fun (W : World) (p j : Nat) (hr : RD W R g m l e o j) (hij : i ≤ j) (hT : TXB W p [⟨#[105, 110]⟩, wd]) (hp : p ≠ R) => behind_any hr vw [⟨#[105, 110]⟩, wd] hT hp (by simp) N (by omega) (fun n j' W' hj => hE n j' W' (by omega)))
  clear h B0 K0 z0 hE hN hfin
  go_enter Tryz.func46, Tryz.ntmps46
  go_upto_region 1 with fail
  rw [← hw0]
  clear hw0
  go_wp2_with fail
  refine (unhide NM).mono ?_
  rintro en w1 ⟨hb1, nm, err, j, rfl, hr1, hij, hres⟩
  have HK1 := hide ((unhide HK).but hb1 (by have := (unhide HH).low; omega))
  have lR := (unhide HH).low
  by_cases q : (nmF l i).1 = 0
  · rw [if_pos q] at hres
    obtain ⟨rfl, rfl, rfl, hnz⟩ := hres
    obtain ⟨nm, hnm⟩ : ∃ nm : ByteArray, nm = ⟨(nmF l i).2.toArray⟩ := ⟨_, rfl⟩
    have HF : Hid (final = onOkL ((ps l vw (N + 1)).B [[105, 110], wd.data.toList] o [] (i + 1)) fun ks j => (0, .mk kd emptyV nm ks, j)) := hide (by
      rw [unhide HFN, lpF, if_neg (fun c => c q), hnm]; rfl)
    rw [← hnm] at hnz ⊢
    obtain ⟨w2, hw2⟩ : ∃ w2, w2 = w1.alloc (.cells #[.string ⟨#[105, 110]⟩, .string wd] 9) := ⟨_, rfl⟩
    have B2 : Below w1.heap.size w1 w2 := by rw [hw2]; exact vbelow_new _ _
    have TX : TXB w2 w1.heap.size [⟨#[105, 110]⟩, wd] := by rw [hw2]; exact TXB.pair _ _ _ _
    have C2 := hide (unhide CB w2 w1.heap.size (i + 1) (hr1.keep B2) (by omega) TX (by have := hb1.size; have := unhide HZ1; omega))
    have e2 : ([⟨#[105, 110]⟩, wd] : List ByteArray).map (fun s => s.data.toList) = [[105, 110], wd.data.toList] := rfl
    rw [e2] at C2
    have HK2 := hide ((unhide HK1).keep B2)
    have HB2 := hide (((But.of (p := R) (unhide HB0)).trans hb1).trans (But.of B2))
    have HZ2 : Hid (w.heap.size < w2.heap.size) := hide (Nat.lt_of_lt_of_le (unhide HZ1) (Nat.le_trans hb1.size B2.size))
    have HNZ := hide hnz
    generalize (ps l vw (N + 1)).B [[105, 110], wd.data.toList] o [] (i + 1) = rl at C2 HF
    clear hnm hr1 hb1 hij NM q B2 TX e2 HK1 hnz HFN
    go_wp2_with fail
    rw [← hw2]
    clear hw2
    refine (unhide C2).mono ?_
    rintro en w3 ⟨hb3, a, n, cap, err, j, rfl, hr3, hij3, hres3⟩
    have HK3 := hide ((unhide HK2).but hb3 (by omega))
    have HB3 := hide hb3
    have HR3 := hide hr3
    have HIJ : Hid (i ≤ j) := hide (by omega)
    have HRES := hide hres3
    obtain ⟨u0, u1, u2, u3, u4, u5, u6, u7, u8, c0, c1, c2, c3, c4, c5, c6, c7, c8, f⟩ := (unhide HK3).all
    have l3 := (unhide HK3).low
    clear hb3 hr3 hij3 hres3 C2
    go_wp2
    refine bodyPost_ret (res_loop _ (unhide HK3) rfl rfl) rfl ?_
    rw [unhide HF]
    exact PostX.node (unhide HH) (unhide HB2) (unhide HB3) (unhide HR3) (unhide HIJ) (by have := unhide HNZ; omega) (Nat.le_refl _) (unhide HZ2) (unhide HRES)
  · rw [if_neg q] at hres
    obtain ⟨qq, rfl⟩ := err_ne hres
    have HU : Hid (UV final.1 _) := hide (by rw [unhide HFN, lpF, if_pos q]; exact hres)
    have HN1 : Hid (final.1 ≠ 0) := hide (by rw [unhide HFN, lpF, if_pos q]; exact q)
    have HR1 := hide hr1
    have HB1 := hide hb1
    have HIJ := hide hij
    obtain ⟨u0, u1, u2, u3, u4, u5, u6, u7, u8, c0, c1, c2, c3, c4, c5, c6, c7, c8, f⟩ := (unhide HK1).all
    have l1 := (unhide HK1).low
    clear hres q hr1 hb1 hij NM
    go_wp2
    refine bodyPost_ret (res_loop _ (unhide HK1) rfl rfl) rfl ?_
    exact PostX.none (unhide HH) (But.of (unhide HB0)) (unhide HB1) (unhide HR1) (unhide HIJ) (Nat.le_refl _) ⟨_, _, _, _, _, _, _, _, _, _, _, _, _, rfl⟩ (unhide HN1) (unhide HU)
end Go.Proofs.YthpjejfgoohhfaaGreatDoor

/- Walks: expression's closure. (Written by mk_pv.py.) -/
namespace Go.Proofs.YthpjejfgoohhfaaGreatDoor
open Go.RowKit Go.MapKept

theorem low_of_cell {w : World} {b o : Nat} {v : Value} (h : w.cell? ⟨b, o, none⟩ = some v) : b < w.heap.size := by
  rcases Nat.lt_or_ge b w.heap.size with q | q
  · exact q
  · simp [World.cell?, Array.getElem?_eq_none q] at h

theorem sees_rd {W : World} {R g m : Nat} {l : List Tk} {e : Int} {o i : Nat} (h : RD W R g m l e o i) (s : ByteArray) (P : Nat) (hP : W.heap.size = P) :
    Calls Tryz.prog 43 #[.pointer (some ⟨R, 0, none⟩), .slice (some ⟨P, 0, none⟩) 1 1] (W.alloc (.cells #[.string s] 9)) fun r w' => r = .returned (.bool (seesT l i s.data.toList)) ∧ Below W.heap.size W w' := by
  subst hP
  rw [← seesL_one]
  exact (sees_any R g i e l [s] W.heap.size _ (h.wk.keep (vbelow_new _ _) h.low) (h.tk.keep (vbelow_new _ _) h.tk.low) (TXB.one W _ s) (by simp) h.len).mono fun _ _ q => ⟨q.1, below_via (vbelow_new _ _) q.2⟩

theorem res_one {W : World} {b : Nat} {v0 v1 v2 v3 v4 v5 v6 v7 v8 err : Value} (tmps : Array Value) (K : K9 W b) (h2 : tmps.getD 1 undef = .pointer (some ⟨b, 0, none⟩)) (h3 : tmps.getD 2 undef = err) :
    (results Tryz.f42 tmps).run Tryz.prog (put9 W b v0 v1 v2 v3 v4 v5 v6 v7 v8) = .ok (.tuple #[.agg #[v0, v1, v2, v3, v4, v5, v6, v7, v8], err]) (put9 W b v0 v1 v2 v3 v4 v5 v6 v7 v8) := by
  obtain ⟨u0, u1, u2, u3, u4, u5, u6, u7, u8, c0, c1, c2, c3, c4, c5, c6, c7, c8, _⟩ := K.all
  simp only [Array.getD_eq_getD_getElem?] at h2 h3
  unfold put9
  simp [results, Tryz.results42, go_sem, h2, h3, c0, c1, c2, c3, c4, c5, c6, c7, c8]

set_option maxRecDepth 100000 in
set_option maxHeartbeats 16000000 in
theorem one_any {w : World} {R g m : Nat} {l : List Tk} {e : Int} {o i qb : Nat} (h : RD w R g m l e o i) (hqc : w.cell? ⟨qb, 0, none⟩ = some (.pointer (some ⟨R, 0, none⟩))) (hqR : qb ≠ R) (vw : Tree → Int) (N : Nat) (hN : 12 * (l.length - i) ≤ N + 1)
    (hE : ∀ n j W, i ≤ j → 12 * (l.length - j) + 11 ≤ n → n ≤ N → RD W R g m l e o j → Calls Tryz.prog 26 #[.pointer (some ⟨R, 0, none⟩)] W (PostX R g m l e o j ((ps l vw n).E o j) W))
    (hJ : ∀ W, RD W R g m l e o i → Calls Tryz.prog 47 #[.pointer (some ⟨R, 0, none⟩), .int .i64 1] W (PostX R g m l e o i ((ps l vw (N + 1)).J 1 o i) W)) :
    Calls Tryz.prog 42 #[.pointer (some ⟨qb, 0, none⟩)] w (PostX R g m l e o i (cF l (ps l vw (N + 1)) o i) w) := by
  obtain ⟨w0, hw0⟩ : ∃ w0, w0 = w.alloc (.cells zero9 29) := ⟨_, rfl⟩
  have B0 : Below w.heap.size w w0 := by rw [hw0]; exact vbelow_new _ _
  have K0 : K9 w0 w.heap.size := by rw [hw0]; exact K9.new w 29 _ _ _ _ _ _ _ _ _
  have z0 : w0.heap.size = w.heap.size + 1 := by rw [hw0]; simp
  have lq := low_of_cell hqc
  have HQ : Hid (∀ wx, But R w0 wx → wx.cell? ⟨qb, 0, none⟩ = some (.pointer (some ⟨R, 0, none⟩))) := hide (fun wx hx => (hx.cell (q := ⟨qb, 0, none⟩) (Nat.lt_of_lt_of_le lq B0.size) hqR).trans ((B0.cell (p := ⟨qb, 0, none⟩) lq).trans hqc))
  have SE := hide (sees_rd (h.keep B0) ⟨#[105, 102]⟩ w0.heap.size rfl)
  have eif : seesT l i (⟨#[105, 102]⟩ : ByteArray).data.toList = seesT l i [105, 102] := rfl
  rw [eif] at SE
  obtain ⟨final, hfin⟩ : ∃ final, final = cF l (ps l vw (N + 1)) o i := ⟨_, rfl⟩
  rw [← hfin]
  have HFN := hide hfin
  have HH := hide h
  have HB0 := hide B0
  have HK := hide K0
  have HZ1 : Hid (w.heap.size < w0.heap.size) := hide (by omega)
  have HHJ := hide hJ
  have lR := h.low
  have CB := hide (fun (W : World) (p : Nat) (hr : RD W R g m l e o i) (hT : TXB W p [⟨#[105, 102]⟩, ⟨#[116, 104, 101, 110]⟩, ⟨#[101, 108, 115, 101]⟩]) (hp : p ≠ R) => behind_any hr vw _ hT hp (by simp) N hN hE)
  have CL := hide (fun (W : World) (kd : Int) (wd : ByteArray) (hr : RD W R g m l e o (i + 1)) => loop_any hr vw kd wd N (by omega) (fun n j' W' hj => hE n j' W' (by omega)))
  have qc0 := unhide HQ w0 (But.refl _ _)
  clear h B0 K0 z0 hE hN hfin hJ hqc hqR lq eif
  go_enter Tryz.func42, Tryz.ntmps42
  go_upto_region 1 with fail
  rw [← hw0]
  clear hw0
  go_wp2_with fail
  refine (unhide SE).mono ?_
  rintro en w1 ⟨rfl, hb1⟩
  have HK1 := hide ((unhide HK).keep hb1)
  have R1 := ((unhide HH).keep (unhide HB0)).keep hb1
  have HR1 := hide R1
  have HB1 := hide (But.of (p := R) hb1)
  have HZ2 : Hid (w.heap.size < w1.heap.size) := hide (Nat.lt_of_lt_of_le (unhide HZ1) hb1.size)
  have qc := unhide HQ w1 (unhide HB1)
  clear qc0
  rcases hs : seesT l i [105, 102] with _ | _
  case true =>
    have HF : Hid (final = onOkL ((ps l vw (N + 1)).B [[105, 102], [116, 104, 101, 110], [101, 108, 115, 101]] o [] i) fun ks j => (0, .mk 17 emptyV ⟨#[]⟩ ks, j)) := hide (by
      rw [unhide HFN, cF, if_pos hs]; rfl)
    obtain ⟨w2, hw2⟩ : ∃ w2, w2 = w1.alloc (.cells #[.string ⟨#[105, 102]⟩, .string ⟨#[116, 104, 101, 110]⟩, .string ⟨#[101, 108, 115, 101]⟩] 9) := ⟨_, rfl⟩
    have B2 : Below w1.heap.size w1 w2 := by rw [hw2]; exact vbelow_new _ _
    have TX : TXB w2 w1.heap.size [⟨#[105, 102]⟩, ⟨#[116, 104, 101, 110]⟩, ⟨#[101, 108, 115, 101]⟩] := by rw [hw2]; exact TXB.three _ _ _ _ _
    have C2 := hide (unhide CB w2 w1.heap.size (R1.keep B2) TX (by have := unhide HZ2; omega))
    have e2 : ([⟨#[105, 102]⟩, ⟨#[116, 104, 101, 110]⟩, ⟨#[101, 108, 115, 101]⟩] : List ByteArray).map (fun s => s.data.toList) = [[105, 102], [116, 104, 101, 110], [101, 108, 115, 101]] := rfl
    rw [e2] at C2
    have HK2 := hide ((unhide HK1).keep B2)
    have HB2 := hide (((But.of (p := R) (unhide HB0)).trans (unhide HB1)).trans (But.of B2))
    have HZ3 : Hid (w.heap.size < w2.heap.size) := hide (Nat.lt_of_lt_of_le (unhide HZ2) B2.size)
    generalize (ps l vw (N + 1)).B [[105, 102], [116, 104, 101, 110], [101, 108, 115, 101]] o [] i = rl at C2 HF
    clear R1 hb1 SE hs B2 TX e2 HK1 HFN
    go_wp2_with fail
    rw [← hw2]
    clear hw2
    refine (unhide C2).mono ?_
    rintro en w3 ⟨hb3, a, n, cap, err, j, rfl, hr3, hij3, hres3⟩
    have HK3 := hide ((unhide HK2).but hb3 (by omega))
    have HB3 := hide hb3
    have HR3 := hide hr3
    have HIJ := hide hij3
    have HRES := hide hres3
    obtain ⟨u0, u1, u2, u3, u4, u5, u6, u7, u8, c0, c1, c2, c3, c4, c5, c6, c7, c8, f⟩ := (unhide HK3).all
    have l3 := (unhide HK3).low
    clear hb3 hr3 hij3 hres3 qc C2
    go_wp2
    refine bodyPost_ret (res_one _ (unhide HK3) rfl rfl) rfl ?_
    rw [unhide HF]
    exact PostX.node (unhide HH) (unhide HB2) (unhide HB3) (unhide HR3) (unhide HIJ) (by decide) (Nat.le_refl _) (unhide HZ3) (unhide HRES)
  case false =>
    have HS0 := hide hs
    clear hs SE hb1
    have TK := hide (take_rd (unhide HR1) ⟨#[102, 111, 114]⟩ w1.heap.size rfl)
    have eW : seesT l i (⟨#[102, 111, 114]⟩ : ByteArray).data.toList = seesT l i [102, 111, 114] := rfl
    rw [eW] at TK
    clear eW
    go_wp2_with fail
    refine (unhide TK).mono ?_
    rintro en w2 ⟨rfl, hbx, hrx⟩
    rcases hs : seesT l i [102, 111, 114] with _ | _
    case true =>
      have HF : Hid (final = lpF l (ps l vw (N + 1)) 20 [114, 101, 116, 117, 114, 110] o (i + 1)) := hide (by
        rw [unhide HFN, cF, if_neg (by rw [unhide HS0]; simp), if_pos hs])
      simp only [hs, if_true] at hrx
      have HK2 := hide ((unhide HK1).but hbx (by omega))
      have HB2 := hide (((But.of (p := R) (unhide HB0)).trans (unhide HB1)).trans hbx)
      have HZ3 : Hid (w.heap.size < w2.heap.size) := hide (Nat.lt_of_lt_of_le (unhide HZ2) hbx.size)
      clear qc
      have qc := unhide HQ w2 ((unhide HB1).trans hbx)
      have C3 := hide (unhide CL w2 20 ⟨#[114, 101, 116, 117, 114, 110]⟩ hrx)
      have eR : lpF l (ps l vw (N + 1)) 20 (⟨#[114, 101, 116, 117, 114, 110]⟩ : ByteArray).data.toList o (i + 1) = final := (unhide HF).symm
      rw [eR] at C3
      clear eR hbx hrx TK hs HK1
      go_wp2_with fail
      refine (unhide C3).mono ?_
      rintro en w9 ⟨hb9, cs, err, j, rfl, h9, hr9, hij, hres⟩
      obtain ⟨k, vk, vy, vc, vx, vt, va, vn, vp, s, xa, xn, xc, rfl⟩ := h9
      have HK9 := hide ((unhide HK2).but hb9 (by omega))
      have HB9 := hide hb9
      have HR9 := hide hr9
      have HS := hide hres
      have HI := hide hij
      obtain ⟨u0, u1, u2, u3, u4, u5, u6, u7, u8, c0, c1, c2, c3, c4, c5, c6, c7, c8, f⟩ := (unhide HK9).all
      have l9 := (unhide HK9).low
      clear hb9 hr9 hres hij C3 HK2 qc
      go_wp2
      refine bodyPost_ret (res_one _ (unhide HK9) rfl rfl) rfl ?_
      exact PostX.via (b := w.heap.size) (unhide HH) (unhide HB2) (unhide HB9) (unhide HR9) (unhide HI) (Nat.le_succ _) ⟨_, _, _, _, _, _, _, _, _, _, _, _, _, rfl⟩ (unhide HS) (Nat.le_refl _) (unhide HZ3)
    case false =>
      simp only [hs, Bool.false_eq_true, if_false] at hrx
      have HR2 := hide hrx
      have HK2 := hide ((unhide HK1).but hbx (by omega))
      have HB2 := hide ((unhide HB1).trans hbx)
      have HZ3 : Hid (w.heap.size < w2.heap.size) := hide (Nat.lt_of_lt_of_le (unhide HZ2) hbx.size)
      clear qc
      have qc := unhide HQ w2 (unhide HB2)
      have HS1 := hide hs
      clear hbx hrx TK hs HK1
      have TK := hide (take_rd (unhide HR2) ⟨#[115, 111, 109, 101]⟩ w2.heap.size rfl)
      have eW : seesT l i (⟨#[115, 111, 109, 101]⟩ : ByteArray).data.toList = seesT l i [115, 111, 109, 101] := rfl
      rw [eW] at TK
      clear eW
      go_wp2_with fail
      refine (unhide TK).mono ?_
      rintro en w3 ⟨rfl, hbx, hrx⟩
      rcases hs : seesT l i [115, 111, 109, 101] with _ | _
      case true =>
        have HF : Hid (final = lpF l (ps l vw (N + 1)) 21 [115, 97, 116, 105, 115, 102, 105, 101, 115] o (i + 1)) := hide (by
          rw [unhide HFN, cF, if_neg (by rw [unhide HS0]; simp), if_neg (by rw [unhide HS1]; simp), if_pos hs])
        simp only [hs, if_true] at hrx
        have HK3 := hide ((unhide HK2).but hbx (by omega))
        have HB3 := hide (((But.of (p := R) (unhide HB0)).trans (unhide HB2)).trans hbx)
        have HZ4 : Hid (w.heap.size < w3.heap.size) := hide (Nat.lt_of_lt_of_le (unhide HZ3) hbx.size)
        clear qc
        have qc := unhide HQ w3 ((unhide HB2).trans hbx)
        have C3 := hide (unhide CL w3 21 ⟨#[115, 97, 116, 105, 115, 102, 105, 101, 115]⟩ hrx)
        have eR : lpF l (ps l vw (N + 1)) 21 (⟨#[115, 97, 116, 105, 115, 102, 105, 101, 115]⟩ : ByteArray).data.toList o (i + 1) = final := (unhide HF).symm
        rw [eR] at C3
        clear eR hbx hrx TK hs HK2
        go_wp2_with fail
        refine (unhide C3).mono ?_
        rintro en w9 ⟨hb9, cs, err, j, rfl, h9, hr9, hij, hres⟩
        obtain ⟨k, vk, vy, vc, vx, vt, va, vn, vp, s, xa, xn, xc, rfl⟩ := h9
        have HK9 := hide ((unhide HK3).but hb9 (by omega))
        have HB9 := hide hb9
        have HR9 := hide hr9
        have HS := hide hres
        have HI := hide hij
        obtain ⟨u0, u1, u2, u3, u4, u5, u6, u7, u8, c0, c1, c2, c3, c4, c5, c6, c7, c8, f⟩ := (unhide HK9).all
        have l9 := (unhide HK9).low
        clear hb9 hr9 hres hij C3 HK3 qc
        go_wp2
        refine bodyPost_ret (res_one _ (unhide HK9) rfl rfl) rfl ?_
        exact PostX.via (b := w.heap.size) (unhide HH) (unhide HB3) (unhide HB9) (unhide HR9) (unhide HI) (Nat.le_succ _) ⟨_, _, _, _, _, _, _, _, _, _, _, _, _, rfl⟩ (unhide HS) (Nat.le_refl _) (unhide HZ4)
      case false =>
        simp only [hs, Bool.false_eq_true, if_false] at hrx
        have HR3 := hide hrx
        have HK3 := hide ((unhide HK2).but hbx (by omega))
        have HB3 := hide ((unhide HB2).trans hbx)
        have HZ4 : Hid (w.heap.size < w3.heap.size) := hide (Nat.lt_of_lt_of_le (unhide HZ3) hbx.size)
        clear qc
        have qc := unhide HQ w3 (unhide HB3)
        have HS2 := hide hs
        clear hbx hrx TK hs HK2
        have TK := hide (take_rd (unhide HR3) ⟨#[101, 118, 101, 114, 121]⟩ w3.heap.size rfl)
        have eW : seesT l i (⟨#[101, 118, 101, 114, 121]⟩ : ByteArray).data.toList = seesT l i [101, 118, 101, 114, 121] := rfl
        rw [eW] at TK
        clear eW
        go_wp2_with fail
        refine (unhide TK).mono ?_
        rintro en w4 ⟨rfl, hbx, hrx⟩
        rcases hs : seesT l i [101, 118, 101, 114, 121] with _ | _
        case true =>
          have HF : Hid (final = lpF l (ps l vw (N + 1)) 22 [115, 97, 116, 105, 115, 102, 105, 101, 115] o (i + 1)) := hide (by
            rw [unhide HFN, cF, if_neg (by rw [unhide HS0]; simp), if_neg (by rw [unhide HS1]; simp), if_neg (by rw [unhide HS2]; simp), if_pos hs])
          simp only [hs, if_true] at hrx
          have HK4 := hide ((unhide HK3).but hbx (by omega))
          have HB4 := hide (((But.of (p := R) (unhide HB0)).trans (unhide HB3)).trans hbx)
          have HZ5 : Hid (w.heap.size < w4.heap.size) := hide (Nat.lt_of_lt_of_le (unhide HZ4) hbx.size)
          clear qc
          have qc := unhide HQ w4 ((unhide HB3).trans hbx)
          have C3 := hide (unhide CL w4 22 ⟨#[115, 97, 116, 105, 115, 102, 105, 101, 115]⟩ hrx)
          have eR : lpF l (ps l vw (N + 1)) 22 (⟨#[115, 97, 116, 105, 115, 102, 105, 101, 115]⟩ : ByteArray).data.toList o (i + 1) = final := (unhide HF).symm
          rw [eR] at C3
          clear eR hbx hrx TK hs HK3
          go_wp2_with fail
          refine (unhide C3).mono ?_
          rintro en w9 ⟨hb9, cs, err, j, rfl, h9, hr9, hij, hres⟩
          obtain ⟨k, vk, vy, vc, vx, vt, va, vn, vp, s, xa, xn, xc, rfl⟩ := h9
          have HK9 := hide ((unhide HK4).but hb9 (by omega))
          have HB9 := hide hb9
          have HR9 := hide hr9
          have HS := hide hres
          have HI := hide hij
          obtain ⟨u0, u1, u2, u3, u4, u5, u6, u7, u8, c0, c1, c2, c3, c4, c5, c6, c7, c8, f⟩ := (unhide HK9).all
          have l9 := (unhide HK9).low
          clear hb9 hr9 hres hij C3 HK4 qc
          go_wp2
          refine bodyPost_ret (res_one _ (unhide HK9) rfl rfl) rfl ?_
          exact PostX.via (b := w.heap.size) (unhide HH) (unhide HB4) (unhide HB9) (unhide HR9) (unhide HI) (Nat.le_succ _) ⟨_, _, _, _, _, _, _, _, _, _, _, _, _, rfl⟩ (unhide HS) (Nat.le_refl _) (unhide HZ5)
        case false =>
          simp only [hs, Bool.false_eq_true, if_false] at hrx
          have HR4 := hide hrx
          have HK4 := hide ((unhide HK3).but hbx (by omega))
          have HB4 := hide ((unhide HB3).trans hbx)
          have HZ5 : Hid (w.heap.size < w4.heap.size) := hide (Nat.lt_of_lt_of_le (unhide HZ4) hbx.size)
          clear qc
          have qc := unhide HQ w4 (unhide HB4)
          have HS3 := hide hs
          clear hbx hrx TK hs HK3
          have C3 := hide (unhide HHJ w4 (unhide HR4))
          have HF : Hid ((ps l vw (N + 1)).J 1 o i = final) := hide (by
            rw [unhide HFN, cF, if_neg (by rw [unhide HS0]; simp), if_neg (by rw [unhide HS1]; simp), if_neg (by rw [unhide HS2]; simp), if_neg (by rw [unhide HS3]; simp)])
          rw [unhide HF] at C3
          have HBB := hide ((But.of (p := R) (unhide HB0)).trans (unhide HB4))
          go_wp2_with fail
          refine (unhide C3).mono ?_
          rintro en w9 ⟨hb9, cs, err, j, rfl, h9, hr9, hij, hres⟩
          obtain ⟨k, vk, vy, vc, vx, vt, va, vn, vp, s, xa, xn, xc, rfl⟩ := h9
          have HK9 := hide ((unhide HK4).but hb9 (by omega))
          have HB9 := hide hb9
          have HR9 := hide hr9
          have HS := hide hres
          have HI := hide hij
          obtain ⟨u0, u1, u2, u3, u4, u5, u6, u7, u8, c0, c1, c2, c3, c4, c5, c6, c7, c8, f⟩ := (unhide HK9).all
          have l9 := (unhide HK9).low
          clear hb9 hr9 hres hij C3 HK4 qc
          go_wp2
          refine bodyPost_ret (res_one _ (unhide HK9) rfl rfl) rfl ?_
          exact PostX.via (b := w.heap.size) (unhide HH) (unhide HBB) (unhide HB9) (unhide HR9) (unhide HI) (Nat.le_refl _) ⟨_, _, _, _, _, _, _, _, _, _, _, _, _, rfl⟩ (unhide HS) (Nat.le_refl _) (unhide HZ5)
end Go.Proofs.YthpjejfgoohhfaaGreatDoor
