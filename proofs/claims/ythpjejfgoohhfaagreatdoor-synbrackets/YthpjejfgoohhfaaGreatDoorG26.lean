/- Walks: literals. -/
import Derived.Test.YthpjejfgoohhfaaGreatDoorG25
import Derived.Deep.Cut
namespace Go.Proofs.YthpjejfgoohhfaaGreatDoor
open Go.RowKit Go.MapKept

/-- a block of nine cells that may be written -/
def K9 (w : World) (b : Nat) : Prop := ∃ cs t, w.heap[b]? = some (.cells cs t (0, 0)) ∧ cs.size = 9
theorem K9.low {w : World} {b : Nat} (h : K9 w b) : b < w.heap.size := by
  obtain ⟨cs, t, h, _⟩ := h
  exact (Array.getElem?_eq_some_iff.1 h).1
theorem K9.new (w : World) (t : TypeId) (v0 v1 v2 v3 v4 v5 v6 v7 v8 : Value) : K9 (w.alloc (.cells #[v0, v1, v2, v3, v4, v5, v6, v7, v8] t)) w.heap.size := ⟨_, t, heap_alloc_new w _, rfl⟩
theorem K9.keep {w w' : World} {b : Nat} (h : K9 w b) (hb : Below w.heap.size w w') : K9 w' b := by
  have l := h.low
  obtain ⟨cs, t, h, hs⟩ := h
  exact ⟨cs, t, (hb.block b l).trans h, hs⟩
theorem K9.but {w w' : World} {b p : Nat} (h : K9 w b) (hb : But p w w') (ne : b ≠ p) : K9 w' b := by
  have l := h.low
  obtain ⟨cs, t, h, hs⟩ := h
  exact ⟨cs, t, (hb.block b l ne).trans h, hs⟩
theorem K9.cell {w : World} {b : Nat} (h : K9 w b) (o : Nat) (ho : o < 9) : ∃ u, w.cell? ⟨b, o, none⟩ = some u := by
  obtain ⟨cs, t, h, hs⟩ := h
  exact ⟨cs[o]'(by omega), by simp [World.cell?, h]⟩
theorem K9.free {w : World} {b : Nat} (h : K9 w b) (o : Nat) : w.frozen? ⟨b, o, none⟩ = false := by
  obtain ⟨cs, t, h, hs⟩ := h
  simp [World.frozen?, h]
/-- nine cells written -/
def put9 (w : World) (b : Nat) (v0 v1 v2 v3 v4 v5 v6 v7 v8 : Value) : World := ((((((((w.setCell ⟨b, 0, none⟩ v0).setCell ⟨b, 1, none⟩ v1).setCell ⟨b, 2, none⟩ v2).setCell ⟨b, 3, none⟩ v3).setCell ⟨b, 4, none⟩ v4).setCell ⟨b, 5, none⟩ v5).setCell ⟨b, 6, none⟩ v6).setCell ⟨b, 7, none⟩ v7).setCell ⟨b, 8, none⟩ v8
theorem put9_below {w : World} {b n : Nat} {v0 v1 v2 v3 v4 v5 v6 v7 v8 : Value} (hn : n ≤ b) : Below n w (put9 w b v0 v1 v2 v3 v4 v5 v6 v7 v8) :=
  ((((((((Below.refl n w).setCell (p := ⟨b, 0, none⟩) hn _).setCell (p := ⟨b, 1, none⟩) hn _).setCell (p := ⟨b, 2, none⟩) hn _).setCell (p := ⟨b, 3, none⟩) hn _).setCell (p := ⟨b, 4, none⟩) hn _).setCell (p := ⟨b, 5, none⟩) hn _).setCell (p := ⟨b, 6, none⟩) hn _).setCell (p := ⟨b, 7, none⟩) hn _ |>.setCell (p := ⟨b, 8, none⟩) hn _
theorem put9_but {w : World} {b : Nat} {v0 v1 v2 v3 v4 v5 v6 v7 v8 : Value} : But b w (put9 w b v0 v1 v2 v3 v4 v5 v6 v7 v8) :=
  (((((((But.set.trans But.set).trans But.set).trans But.set).trans But.set).trans But.set).trans But.set).trans But.set).trans But.set
theorem RD.other {w w' : World} {R g m p : Nat} {l : List Tk} {e : Int} {o i : Nat} (h : RD w R g m l e o i) (hb : But p w w') (hR : R < p) (hg : g < p) (hm : m < p) : RD w' R g m l e o i := by
  have lR := h.low
  obtain ⟨q, c, h1, h2, h3⟩ := h.wk.left
  refine ⟨⟨Nat.lt_of_lt_of_le lR hb.size, h.wk.le, ⟨q, c, (hb.cell (q := ⟨R, 0, none⟩) lR (by simp; omega)).trans h1, h2, h3⟩, (hb.cell (q := ⟨R, 1, none⟩) lR (by simp; omega)).trans h.wk.fin, (hb.frozen (q := ⟨R, 0, none⟩) lR (by simp; omega)).trans h.wk.free⟩, h.tk.but hb (by omega), h.gne, h.mne, (hb.cell (q := ⟨R, 2, none⟩) lR (by simp; omega)).trans h.opn, (hb.frozen (q := ⟨R, 2, none⟩) lR (by simp; omega)).trans h.fr, (hb.cell (q := ⟨R, 3, none⟩) lR (by simp; omega)).trans h.sg, h.mp.but hb (by omega), h.len, ?_, h.tx⟩
  obtain ⟨B, q, t⟩ := h.tb
  exact ⟨B, q, t.below (hb.below (by omega) (by omega))⟩
/-- a reader's end: what it hands back was written into a block of its own -/
theorem PostX.end {w w2 W : World} {R g m b : Nat} {l : List Tk} {e : Int} {o i j : Nat} {r : PR} {cs : Array Value} {err : Value} (h : RD w R g m l e o i) (hb : But R w w2) (hr : RD w2 R g m l e o j) (hij : i ≤ j) (hW : But b w2 W) (hlo : Below w.heap.size w2 W) (hbl : w.heap.size ≤ b) (h9 : X9 cs) (hres : if r.1 = 0 then err = .nilIface ∧ j = r.2.2 ∧ XB (w.heap.size ≤ ·) W r.2.1 cs else UV r.1 err) :
    PostX R g m l e o i r w (.returned (.tuple #[.agg cs, err])) W :=
  ⟨hb.on hlo, cs, err, j, rfl, h9, hr.other hW (Nat.lt_of_lt_of_le h.low hbl) (Nat.lt_of_lt_of_le h.tk.low hbl) (Nat.lt_of_lt_of_le h.mp.low hbl), hij, hres⟩
/-- all that a store of nine cells asks -/
theorem K9.all {w : World} {b : Nat} (h : K9 w b) : ∃ u0 u1 u2 u3 u4 u5 u6 u7 u8, w.cell? ⟨b, 0, none⟩ = some u0 ∧ w.cell? ⟨b, 1, none⟩ = some u1 ∧ w.cell? ⟨b, 2, none⟩ = some u2 ∧ w.cell? ⟨b, 3, none⟩ = some u3 ∧ w.cell? ⟨b, 4, none⟩ = some u4 ∧ w.cell? ⟨b, 5, none⟩ = some u5 ∧ w.cell? ⟨b, 6, none⟩ = some u6 ∧ w.cell? ⟨b, 7, none⟩ = some u7 ∧ w.cell? ⟨b, 8, none⟩ = some u8 ∧ ∀ o, w.frozen? ⟨b, o, none⟩ = false := by
  obtain ⟨u0, c0⟩ := h.cell 0 (by decide)
  obtain ⟨u1, c1⟩ := h.cell 1 (by decide)
  obtain ⟨u2, c2⟩ := h.cell 2 (by decide)
  obtain ⟨u3, c3⟩ := h.cell 3 (by decide)
  obtain ⟨u4, c4⟩ := h.cell 4 (by decide)
  obtain ⟨u5, c5⟩ := h.cell 5 (by decide)
  obtain ⟨u6, c6⟩ := h.cell 6 (by decide)
  obtain ⟨u7, c7⟩ := h.cell 7 (by decide)
  obtain ⟨u8, c8⟩ := h.cell 8 (by decide)
  exact ⟨u0, u1, u2, u3, u4, u5, u6, u7, u8, c0, c1, c2, c3, c4, c5, c6, c7, c8, h.free⟩

def litR (T : Tree) (i : Nat) : PR := if (wrongF T 0 1).1 ≠ 0 then ((wrongF T 0 1).1, noX, i) else (0, .mk 1 T ⟨#[]⟩ [], i + 1)
abbrev zero9 : Array Value := #[.int .i64 0, .int .i64 0, .bool false, .int .i64 0, .int .i64 0, .string ⟨#[]⟩, .slice none 0 0, .string ⟨#[]⟩, .slice none 0 0]

set_option maxRecDepth 100000 in
set_option maxHeartbeats 8000000 in
theorem literal_any {w : World} {R g m : Nat} {l : List Tk} {e : Int} {o i : Nat} (h : RD w R g m l e o i) (hi : i < l.length) (vk : Int) (vy : Bool) (vc vx : Int) (vt : ByteArray) (hvt : vt.size ≤ 9223372036854775807) :
    Calls Tryz.prog 108 #[.pointer (some ⟨R, 0, none⟩), .agg #[.int .i64 vk, .bool vy, .int .i64 vc, .int .i64 vx, .string vt, .slice none 0 0]] w (PostX R g m l e o i (litR (.mk vk vy vc vx vt []) i) w) := by
  obtain ⟨w0, hw0⟩ : ∃ w0, w0 = (w.alloc (.cells #[.int .i64 vk, .bool vy, .int .i64 vc, .int .i64 vx, .string vt, .slice none 0 0] 26)).alloc (.cells zero9 29) := ⟨_, rfl⟩
  have B0 : Below w.heap.size w w0 := by rw [hw0]; exact below_via (vbelow_new _ _) (vbelow_new _ _)
  have Y0 : V6 w0 w.heap.size (.int .i64 vk) (.bool vy) (.int .i64 vc) (.int .i64 vx) (.string vt) (.slice none 0 0) := by rw [hw0]; exact (V6.new w 26 _ _ _ _ _ _).keep (vbelow_new _ _) (by simp)
  have K0 : K9 w0 (w.heap.size + 1) := by rw [hw0]; have := K9.new (w.alloc (.cells #[.int .i64 vk, .bool vy, .int .i64 vc, .int .i64 vx, .string vt, .slice none 0 0] 26)) 29 (.int .i64 0) (.int .i64 0) (.bool false) (.int .i64 0) (.int .i64 0) (.string ⟨#[]⟩) (.slice none 0 0) (.string ⟨#[]⟩) (.slice none 0 0); simpa using this
  obtain ⟨B, hBR, hTB⟩ := h.tb
  have lR := h.low
  have hBw : B ≤ w0.heap.size := by have := B0.size; omega
  obtain ⟨wv, hW⟩ : ∃ wv, (wrongF (.mk vk vy vc vx vt []) 0 1).1 = wv := ⟨_, rfl⟩
  have CW0 := logicWrong_any (.mk vk vy vc vx vt []) #[.int .i64 vk, .bool vy, .int .i64 vc, .int .i64 vx, .string vt, .slice none 0 0] B w0 hBw (by rw [Mem]; exact ⟨hvt, by simp, none, 0, rfl, fun q => absurd rfl q⟩) (hTB.below (B0.mono (by omega)))
  rw [hW] at CW0
  have CW := hide CW0
  clear CW0
  have HH := hide h
  have HR0 := hide (h.keep B0)
  have HB0 := hide B0
  have HK0 := hide K0
  have HX0 := hide Y0
  obtain ⟨b0, b1, b2, b3, b4, b5⟩ := Y0.tell
  clear hTB B0 K0 h Y0
  by_cases h0 : wv = 0
  · subst h0
    have ER : litR (.mk vk vy vc vx vt []) i = (0, .mk 1 (.mk vk vy vc vx vt []) ⟨#[]⟩ [], i + 1) := by unfold litR; rw [hW, if_neg (by simp)]
    rw [ER]
    clear ER hW
    go_enter Tryz.func108, Tryz.ntmps108
    go_upto_region 1 with fail
    rw [← hw0]
    clear hw0
    go_wp2_with fail
    refine (unhide CW).mono ?_
    rintro r w1 ⟨rfl, hb1⟩
    have HR1 := hide ((unhide HR0).keep hb1)
    have HB1 := hide (below_via (unhide HB0) hb1)
    have HK1 := hide ((unhide HK0).keep hb1)
    have HX1 := hide ((unhide HX0).keep hb1 (unhide HX0).low)
    have PS := hide (pass_any R g i e l w1 (unhide HR1).wk hi)
    clear hb1 CW HR0 HB0 HK0 HX0 b0 b1 b2 b3 b4 b5
    go_wp2_with fail
    refine (unhide PS).mono ?_
    rintro r w2 ⟨rfl, hk2, hb2⟩
    have HR2 := hide ((unhide HR1).at hb2 hk2)
    have HB2 := hide ((But.of (p := R) (unhide HB1)).trans hb2.but)
    have HK2 := hide ((unhide HK1).but hb2.but (by omega))
    obtain ⟨u0, u1, u2, u3, u4, u5, u6, u7, u8, c0, c1, c2, c3, c4, c5, c6, c7, c8, f⟩ := (unhide HK2).all
    obtain ⟨b0, b1, b2, b3, b4, b5⟩ := (unhide HX1).tell
    have d : ∀ o, w2.cell? ⟨w.heap.size, o, none⟩ = w1.cell? ⟨w.heap.size, o, none⟩ := fun o => hb2.but.cell (q := ⟨w.heap.size, o, none⟩) (unhide HX1).low (by simp; omega)
    rw [← d] at b0 b1 b2 b3 b4 b5
    clear d hk2 hb2 HR1 HB1 HK1 HX1 PS
    go_wp2
    refine bodyPost_ret (v := .tuple #[.agg #[.int .i64 1, .int .i64 vk, .bool vy, .int .i64 vc, .int .i64 vx, .string vt, .slice none 0 0, .string ⟨#[]⟩, .slice none 0 0], .nilIface]) (by simp [results, Tryz.results108, go_sem, c0, c1, c2, c3, c4, c5, c6, c7, c8]) rfl ?_
    exact PostX.end (b := w.heap.size + 1) (unhide HH) (unhide HB2) (unhide HR2) (by omega) put9_but (put9_below (by omega)) (by omega) ⟨_, _, _, _, _, _, _, _, _, _, _, _, _, rfl⟩ (by rw [if_pos rfl]; exact ⟨rfl, rfl, XB.leaf (by decide) hvt⟩)
  · have ER : litR (.mk vk vy vc vx vt []) i = (wv, noX, i) := by unfold litR; rw [hW, if_pos h0]
    rw [ER]
    have h0' : (wv != 0) = true := by rw [bne_iff_ne]; exact h0
    clear ER hW
    go_enter Tryz.func108, Tryz.ntmps108
    go_upto_region 1 with fail
    rw [← hw0]
    clear hw0
    go_wp2_with fail
    refine (unhide CW).mono ?_
    rintro r w1 ⟨rfl, hb1⟩
    have HR1 := hide ((unhide HR0).keep hb1)
    have HB1 := hide (below_via (unhide HB0) hb1)
    have HK1 := hide ((unhide HK0).keep hb1)
    have ST := hide (stuck_any R g i e wv l w1 (unhide HR1).wk (unhide HR1).tk)
    clear hb1 CW HR0 HB0 HK0 HX0 b0 b1 b2 b3 b4 b5
    go_wp2_with fail
    refine (unhide ST).mono ?_
    rintro r w2 ⟨⟨v, rfl, hu⟩, hb2⟩
    have HR2 := hide ((unhide HR1).keep hb2)
    have HB2 := hide (below_via (unhide HB1) hb2)
    have HK2 := hide ((unhide HK1).keep hb2)
    have HU := hide hu
    obtain ⟨u0, u1, u2, u3, u4, u5, u6, u7, u8, c0, c1, c2, c3, c4, c5, c6, c7, c8, f⟩ := (unhide HK2).all
    clear hb2 hu HR1 HB1 HK1 ST
    go_wp2
    refine bodyPost_ret (v := .tuple #[.agg zero9, v]) (by simp [results, Tryz.results108, go_sem, c0, c1, c2, c3, c4, c5, c6, c7, c8]) rfl ?_
    exact PostX.end (b := w.heap.size + 1) (unhide HH) (But.of (unhide HB2)) (unhide HR2) (Nat.le_refl _) put9_but (put9_below (by omega)) (by omega) ⟨_, _, _, _, _, _, _, _, _, _, _, _, _, rfl⟩ (by rw [if_neg h0]; exact unhide HU)
end Go.Proofs.YthpjejfgoohhfaaGreatDoor

/- Walks: the sign that comes next. -/
namespace Go.Proofs.YthpjejfgoohhfaaGreatDoor
open Go.RowKit Go.MapKept

def jointV (k : Int) (t : ByteArray) (lev : Int) : Option Int := match sgnF t.data.toList with
  | none => none
  | some (a, q) => if k ≠ 3 ∧ a = lev then some q else none
theorem jointV_of {l : List Tk} {i : Nat} {e k c x a lev : Int} {t : ByteArray} (h : nextV l i e = #[.int .i64 k, .string t, .int .i64 c, .int .i64 x, .int .i64 a]) : jointF l i lev = jointV k t lev := by
  unfold nextV at h
  unfold jointF jointV
  cases ht : l[i]? with
  | none =>
    rw [ht] at h
    simp only [endV, Array.mk.injEq, List.cons.injEq, Value.int.injEq, Value.string.injEq, true_and, and_true] at h
    obtain ⟨_, hs, _⟩ := h
    rw [← hs]
    rfl
  | some u =>
    rw [ht] at h
    simp only [tokV, Array.mk.injEq, List.cons.injEq, Value.int.injEq, Value.string.injEq, true_and, and_true] at h
    obtain ⟨hk, hs, _⟩ := h
    rw [← hs, ← hk]
    rfl
theorem zero_sign (w : World) : (zeroValue 79).run Tryz.prog w = .ok (.agg #[.string ⟨#[]⟩, .int .i64 0, .int .i64 0]) w := by
  simp [go_sem]

/-- what the map of signs tells of a text -/
theorem sign_look {w : World} {m : Nat} (h : MapF m sgnV w) (t : ByteArray) : ∃ (s : ByteArray) (a q : Int) (ok : Bool), (∀ W, Below w.heap.size w W → (Instr.lookup 61 (.map (some m)) (.string t) true).run Tryz.prog W = .ok (.tuple #[.agg #[.string s, .int .i64 a, .int .i64 q], .bool ok]) W) ∧ ∀ k lev, jointV k t lev = if ok = true ∧ k ≠ 3 ∧ a = lev then some q else none := by
  cases hs : sgnF t.data.toList with
  | none =>
    refine ⟨⟨#[]⟩, 0, 0, false, fun W hb => (h.keep hb).miss Tryz.underlying61 Tryz.underlying9 (zero_sign W) (by unfold sgnV; rw [hs]; rfl), fun k lev => ?_⟩
    unfold jointV
    rw [hs, if_neg (by simp)]
  | some r =>
    obtain ⟨a, q⟩ := r
    refine ⟨t, a, q, true, fun W hb => (h.keep hb).look Tryz.underlying61 Tryz.underlying9 (by unfold sgnV; rw [hs]; rfl), fun k lev => ?_⟩
    unfold jointV
    rw [hs]
    simp

set_option maxRecDepth 100000 in
set_option maxHeartbeats 8000000 in
theorem joint_any {w : World} {R g m : Nat} {l : List Tk} {e : Int} {o i : Nat} (h : RD w R g m l e o i) (lev : Int) :
    Calls Tryz.prog 72 #[.pointer (some ⟨R, 0, none⟩), .int .i64 lev] w fun en w' => (∃ s a k, en = .returned (.tuple #[.agg #[.string s, .int .i64 a, .int .i64 k], .bool (jointF l i lev).isSome]) ∧ ∀ q, jointF l i lev = some q → k = q) ∧ Below w.heap.size w w' := by
  obtain ⟨w0, hw0⟩ : ∃ w0, w0 = w.alloc (.cells #[.string ⟨#[]⟩, .int .i64 0, .int .i64 0] 79) := ⟨_, rfl⟩
  have B0 : Below w.heap.size w w0 := by rw [hw0]; exact vbelow_new _ _
  have h0 := h.keep B0
  have C := hide (nextTok_any R g i e l w0 h0.wk h0.tk)
  obtain ⟨k, t, cc, x, a, hv⟩ := nextV_form l i e
  rw [hv] at C
  rw [jointV_of (lev := lev) hv]
  have z0 : w0.heap.size = w.heap.size + 1 := by rw [hw0]; simp
  have p0 : w0.cell? ⟨w.heap.size, 0, none⟩ = some (.string ⟨#[]⟩) := by rw [hw0]; simp [go_sem]
  have p1 : w0.cell? ⟨w.heap.size, 1, none⟩ = some (.int .i64 0) := by rw [hw0]; simp [go_sem]
  have p2 : w0.cell? ⟨w.heap.size, 2, none⟩ = some (.int .i64 0) := by rw [hw0]; simp [go_sem]
  have pf : ∀ o, w0.frozen? ⟨w.heap.size, o, none⟩ = false := fun o => by rw [hw0]; simp [go_sem]
  have HP := hide (And.intro z0 (And.intro p0 (And.intro p1 (And.intro p2 pf))))
  have HR0 := hide h0
  have HB0 := hide B0
  have lR := h.low
  clear h h0 B0 hv z0 p0 p1 p2 pf
  go_enter Tryz.func72, Tryz.ntmps72
  go_upto_region 1 with fail
  rw [← hw0]
  clear hw0
  go_wp2_with fail
  refine (unhide C).mono ?_
  rintro r w1 ⟨rfl, hb1⟩
  have HR1 := hide ((unhide HR0).keep hb1)
  have HB1 := hide (below_via (unhide HB0) hb1)
  obtain ⟨w2, hw2⟩ : ∃ w2, w2 = w1.alloc (.cells #[.int .i64 k, .string t, .int .i64 cc, .int .i64 x, .int .i64 a] 111) := ⟨_, rfl⟩
  have B2 : Below w1.heap.size w1 w2 := by rw [hw2]; exact vbelow_new _ _
  have h2 := (unhide HR1).keep B2
  obtain ⟨s, va, vq, ok, LK, JV⟩ := sign_look h2.mp t
  have lk1 := LK w2.drew (Below.refl _ _).drew
  have lk2 := LK (w2.alloc (.cells #[.string ⟨#[]⟩, .int .i64 0, .int .i64 0] 79)).drew ((vbelow_new _ _).drew)
  have HJ := hide (JV k lev)
  have sg := h2.sg
  have t1 : w2.cell? ⟨w1.heap.size, 1, none⟩ = some (.string t) := by rw [hw2]; simp [go_sem]
  have l2 : R < w2.heap.size := h2.low
  have l1 : w1.heap.size < w2.heap.size := by rw [hw2]; simp
  have HW2 := hide hw2
  clear C LK JV h2
  go_upto_region 2 with fail
  rw [← unhide HW2]
  clear hw2
  obtain ⟨w3, hw3⟩ : ∃ w3, w3 = (w2.alloc (.cells #[.string s, .int .i64 va, .int .i64 vq] 79)).drew := ⟨_, rfl⟩
  have B3 : Below w.heap.size w w3 := below_via (unhide HB1) (below_via B2 (by rw [hw3]; exact (vbelow_new _ _).drew))
  have B13 : Below w1.heap.size w1 w3 := below_via B2 (by rw [hw3]; exact (vbelow_new _ _).drew)
  have s0 : w3.cell? ⟨w2.heap.size, 0, none⟩ = some (.string s) := by rw [hw3]; simp [go_sem]
  have s1 : w3.cell? ⟨w2.heap.size, 1, none⟩ = some (.int .i64 va) := by rw [hw3]; simp [go_sem]
  have s2 : w3.cell? ⟨w2.heap.size, 2, none⟩ = some (.int .i64 vq) := by rw [hw3]; simp [go_sem]
  have tk : w3.cell? ⟨w1.heap.size, 0, none⟩ = some (.int .i64 k) := by
    have e1 : w3.cell? ⟨w1.heap.size, 0, none⟩ = w2.cell? ⟨w1.heap.size, 0, none⟩ := (show Below w2.heap.size w2 w3 by rw [hw3]; exact (vbelow_new _ _).drew).cell (p := ⟨w1.heap.size, 0, none⟩) l1
    rw [e1, unhide HW2]; simp [go_sem]
  obtain ⟨z0, p0, p1, p2, pf⟩ := unhide HP
  have lp : w.heap.size < w1.heap.size := by have := hb1.size; omega
  have c : ∀ o, w3.cell? ⟨w.heap.size, o, none⟩ = w0.cell? ⟨w.heap.size, o, none⟩ := fun o => (below_via hb1 B13).cell (p := ⟨w.heap.size, o, none⟩) (by simp; omega)
  rw [← c] at p0 p1 p2
  have pf' : ∀ o, w3.frozen? ⟨w.heap.size, o, none⟩ = false := fun o => ((below_via hb1 B13).frozen (p := ⟨w.heap.size, o, none⟩) (by simp; omega)).trans (pf o)
  have HB3 := hide B3
  have HW3 := hide hw3
  have l3 : w.heap.size < w3.heap.size := by have := B13.size; omega
  have l4 : w1.heap.size < w3.heap.size := by have := (show Below w2.heap.size w2 w3 by rw [hw3]; exact (vbelow_new _ _).drew).size; omega
  have l5 : w2.heap.size < w3.heap.size := by rw [hw3]; simp [World.drew]
  have ne1 : ¬ w.heap.size = w1.heap.size := by omega
  have ne2 : ¬ w.heap.size = w2.heap.size := by omega
  go_region
  all_goals
    rw [← unhide HW3]
    clear hw3 HW3 B3 B13 c pf z0 HP lk1 lk2 sg t1 l2 l1 HW2 B2 hb1 HR1 HB1 HR0 HB0
    cases ok
    · have HE : Hid (jointV k t lev = none) := hide (by rw [unhide HJ, if_neg (by simp)])
      clear HJ
      go_upto_region 3 with fail
      go_region
      go_wp2
      exact bodyPost_ret (v := .tuple #[.agg #[.string s, .int .i64 va, .int .i64 vq], .bool false]) (by simp [results, Tryz.results72, go_sem, p0, p1, p2]) rfl ⟨⟨s, va, vq, by rw [unhide HE]; rfl, fun q hq => by rw [unhide HE] at hq; cases hq⟩, ((((unhide HB3).setCell (p := ⟨w.heap.size, 0, none⟩) (Nat.le_refl _) _).setCell (p := ⟨w.heap.size, 1, none⟩) (Nat.le_refl _) _).setCell (p := ⟨w.heap.size, 2, none⟩) (Nat.le_refl _) _).drew⟩
    · by_cases hk : k = 3
      · have HE : Hid (jointV k t lev = none) := hide (by rw [unhide HJ, if_neg (by simp [hk])])
        clear HJ
        have hk' : (k != 3) = false := by rw [hk]; rfl
        go_upto_region 3 with fail
        go_region
        go_wp2
        exact bodyPost_ret (v := .tuple #[.agg #[.string s, .int .i64 va, .int .i64 vq], .bool false]) (by simp [results, Tryz.results72, go_sem, p0, p1, p2]) rfl ⟨⟨s, va, vq, by rw [unhide HE]; rfl, fun q hq => by rw [unhide HE] at hq; cases hq⟩, ((((unhide HB3).setCell (p := ⟨w.heap.size, 0, none⟩) (Nat.le_refl _) _).setCell (p := ⟨w.heap.size, 1, none⟩) (Nat.le_refl _) _).setCell (p := ⟨w.heap.size, 2, none⟩) (Nat.le_refl _) _).drew⟩
      · have hk' : (k != 3) = true := by rw [bne_iff_ne]; exact hk
        by_cases hl : va = lev
        · have HE : Hid (jointV k t lev = some vq) := hide (by rw [unhide HJ, if_pos ⟨rfl, hk, hl⟩])
          have hl' : (va == lev) = true := by rw [hl]; exact beq_self_eq_true _
          clear HJ hl hk
          go_upto_region 3 with fail
          go_region
          go_wp2
          exact bodyPost_ret (v := .tuple #[.agg #[.string s, .int .i64 va, .int .i64 vq], .bool true]) (by simp [results, Tryz.results72, go_sem, p0, p1, p2]) rfl ⟨⟨s, va, vq, by rw [unhide HE]; rfl, fun q hq => by rw [unhide HE] at hq; exact Option.some.inj hq⟩, ((((unhide HB3).setCell (p := ⟨w.heap.size, 0, none⟩) (Nat.le_refl _) _).setCell (p := ⟨w.heap.size, 1, none⟩) (Nat.le_refl _) _).setCell (p := ⟨w.heap.size, 2, none⟩) (Nat.le_refl _) _).drew⟩
        · have HE : Hid (jointV k t lev = none) := hide (by rw [unhide HJ, if_neg (fun q => hl q.2.2)])
          have hl' : (va == lev) = false := by rw [beq_eq_false_iff_ne]; exact hl
          clear HJ hl hk
          go_upto_region 3 with fail
          go_region
          go_wp2
          exact bodyPost_ret (v := .tuple #[.agg #[.string s, .int .i64 va, .int .i64 vq], .bool false]) (by simp [results, Tryz.results72, go_sem, p0, p1, p2]) rfl ⟨⟨s, va, vq, by rw [unhide HE]; rfl, fun q hq => by rw [unhide HE] at hq; cases hq⟩, ((((unhide HB3).setCell (p := ⟨w.heap.size, 0, none⟩) (Nat.le_refl _) _).setCell (p := ⟨w.heap.size, 1, none⟩) (Nat.le_refl _) _).setCell (p := ⟨w.heap.size, 2, none⟩) (Nat.le_refl _) _).drew⟩
end Go.Proofs.YthpjejfgoohhfaaGreatDoor
