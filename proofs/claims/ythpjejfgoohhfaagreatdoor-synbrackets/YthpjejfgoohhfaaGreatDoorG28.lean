/- Walks: a minus ahead of an expression. -/
import Derived.Test.YthpjejfgoohhfaaGreatDoorG27
import Derived.Laws.Rows
import Derived.Maps.AppendAt
namespace Go.Proofs.YthpjejfgoohhfaaGreatDoor
open Go.RowKit Go.MapKept

theorem put9_alloc {w : World} {b : Nat} {o : Obj} {v0 v1 v2 v3 v4 v5 v6 v7 v8 : Value} (h : b < w.heap.size) : (put9 w b v0 v1 v2 v3 v4 v5 v6 v7 v8).alloc o = put9 (w.alloc o) b v0 v1 v2 v3 v4 v5 v6 v7 v8 := by
  unfold put9
  simp [go_sem, h]

theorem res_signed {W : World} {b : Nat} {v0 v1 v2 v3 v4 v5 v6 v7 v8 err : Value} (tmps : Array Value) (K : K9 W b) (h2 : tmps.getD 2 undef = .pointer (some ⟨b, 0, none⟩)) (h3 : tmps.getD 3 undef = err) :
    (results Tryz.f71 tmps).run Tryz.prog (put9 W b v0 v1 v2 v3 v4 v5 v6 v7 v8) = .ok (.tuple #[.agg #[v0, v1, v2, v3, v4, v5, v6, v7, v8], err]) (put9 W b v0 v1 v2 v3 v4 v5 v6 v7 v8) := by
  obtain ⟨u0, u1, u2, u3, u4, u5, u6, u7, u8, c0, c1, c2, c3, c4, c5, c6, c7, c8, _⟩ := K.all
  simp only [Array.getD_eq_getD_getElem?] at h2 h3
  unfold put9
  simp [results, Tryz.results71, go_sem, h2, h3, c0, c1, c2, c3, c4, c5, c6, c7, c8]

set_option maxRecDepth 100000 in
set_option maxHeartbeats 8000000 in
theorem signed_minus {w : World} {R g m : Nat} {l : List Tk} {e : Int} {o i : Nat} (h : RD w R g m l e o i) (ho : o ≤ 200) (rS : PR) (hs : seesT l i [45] = true)
    (hS : ∀ W, o + 1 ≤ 200 → RD W R g m l e (o + 1) (i + 1) → Calls Tryz.prog 71 #[.pointer (some ⟨R, 0, none⟩)] W (PostX R g m l e (o + 1) (i + 1) rS W)) :
    Calls Tryz.prog 71 #[.pointer (some ⟨R, 0, none⟩)] w (PostX R g m l e o i (if 200 < o + 1 then (4, noX, i + 1) else onOk rS fun x j => (0, xN 3 [x], j)) w) := by
  have hmf : ∀ (fn : Fn) (first cap : Array Value) (w : World), (Instr.makeFunc fn first cap).run Tryz.prog w = .ok (.func fn first cap) w := fun _ _ _ _ => rfl
  obtain ⟨w0, hw0⟩ : ∃ w0, w0 = w.alloc (.cells zero9 29) := ⟨_, rfl⟩
  have B0 : Below w.heap.size w w0 := by rw [hw0]; exact vbelow_new _ _
  have K0 : K9 w0 w.heap.size := by rw [hw0]; exact K9.new w 29 _ _ _ _ _ _ _ _ _
  have z0 : w0.heap.size = w.heap.size + 1 := by rw [hw0]; simp
  have lR := h.low
  have h0 := h.keep B0
  have TK := hide (take_lit R g i e l ⟨#[45]⟩ w0.heap.size w0 rfl h0.wk h0.tk h0.len)
  have e45 : seesT l i (⟨#[45]⟩ : ByteArray).data.toList = seesT l i [45] := rfl
  rw [e45] at TK
  have HH := hide h
  have HH0 := hide h0
  have HB0 := hide B0
  have HK := hide K0
  have HZ := hide z0
  clear h h0 B0 K0 z0 e45
  have ER : (if 200 < o + 1 then ((4 : Int), noX, i + 1) else onOk rS fun x j => (0, xN 3 [x], j)) = onOk (if 200 < o + 1 then (4, noX, i + 1) else rS) fun x j => (0, xN 3 [x], j) := by
    split
    · rw [onOk_no (by simp)]
    · rfl
  rw [ER]
  have CW := hide (fun W (hW : RD W R g m l e o (i + 1)) => within_signed hW ho rS hS)
  generalize (if 200 < o + 1 then ((4 : Int), noX, i + 1) else rS) = r2 at *
  rw [hs] at TK
  clear hS hs ER
  go_enter Tryz.func71, Tryz.ntmps71
  go_upto_region 1 with fail
  rw [← hw0]
  clear hw0
  go_wp2_with fail
  refine (unhide TK).mono ?_
  rintro en w1 ⟨rfl, hk1, hb1⟩
  simp only [if_true] at hk1
  have h1 := (unhide HH0).at hb1 hk1
  have C2 := hide (unhide CW w1 h1)
  have HK1 := hide ((unhide HK).but hb1.but (by omega))
  have HB1 := hide ((But.of (p := R) (unhide HB0)).trans hb1.but)
  have lw1 : w.heap.size < w1.heap.size := by have := hb1.but.size; have := unhide HZ; omega
  clear hk1 hb1 h1 CW TK HK
  go_wp2_with fail
  refine (unhide C2).mono ?_
  rintro en w2 ⟨hb2, cs, err, j, rfl, h9, hr2, hij, hres⟩
  obtain ⟨k, vk, vy, vc, vx, vt, va, vn, vp, s, xa, xn, xc, rfl⟩ := h9
  have HK2 := hide ((unhide HK1).but hb2 (by omega))
  have HB2 := hide ((unhide HB1).trans hb2)
  have HR2 := hide hr2
  have HS := hide hres
  have HI := hide hij
  have lw2 : w.heap.size < w2.heap.size := by have := hb2.size; omega
  have HL : Hid (w1.heap.size ≤ w2.heap.size) := hide hb2.size
  obtain ⟨w3, hw3⟩ : ∃ w3, w3 = w2.alloc (.cells #[.int .i64 k, .int .i64 vk, .bool vy, .int .i64 vc, .int .i64 vx, .string vt, .slice va vn vp, .string s, .slice xa xn xc] 29) := ⟨_, rfl⟩
  have B3 : Below w2.heap.size w2 w3 := by rw [hw3]; exact vbelow_new _ _
  have HK3 := hide ((unhide HK2).keep B3)
  have HW3 := hide hw3
  obtain ⟨b0, b1, b2, b3, b4, b5, b6, b7, b8⟩ : w3.cell? ⟨w2.heap.size, 0, none⟩ = some (.int .i64 k) ∧ w3.cell? ⟨w2.heap.size, 1, none⟩ = some (.int .i64 vk) ∧ w3.cell? ⟨w2.heap.size, 2, none⟩ = some (.bool vy) ∧ w3.cell? ⟨w2.heap.size, 3, none⟩ = some (.int .i64 vc) ∧ w3.cell? ⟨w2.heap.size, 4, none⟩ = some (.int .i64 vx) ∧ w3.cell? ⟨w2.heap.size, 5, none⟩ = some (.string vt) ∧ w3.cell? ⟨w2.heap.size, 6, none⟩ = some (.slice va vn vp) ∧ w3.cell? ⟨w2.heap.size, 7, none⟩ = some (.string s) ∧ w3.cell? ⟨w2.heap.size, 8, none⟩ = some (.slice xa xn xc) := by
    rw [hw3]; exact (V9.new w2 29 _ _ _ _ _ _ _ _ _).tell
  have l3 : w2.heap.size < w3.heap.size := by rw [hw3]; simp
  have l4 : w.heap.size < w3.heap.size := by omega
  have HZ3 : Hid (w3.heap.size = w2.heap.size + 1) := hide (by rw [hw3]; simp)
  obtain ⟨u0, u1, u2, u3, u4, u5, u6, u7, u8, c0, c1, c2, c3, c4, c5, c6, c7, c8, f⟩ := (unhide HK3).all
  clear hb2 hr2 hres hij C2 HK1 HK2 B3
  go_upto_region 4 with fail
  rw [← unhide HW3]
  clear hw3
  go_wp2
  have E := put9_alloc (w := w3) (b := w.heap.size) (o := .cells #[.int .i64 k, .int .i64 vk, .bool vy, .int .i64 vc, .int .i64 vx, .string vt, .slice va vn vp, .string s, .slice xa xn xc] 29) (v0 := .int .i64 3) (v1 := .int .i64 0) (v2 := .bool false) (v3 := .int .i64 0) (v4 := .int .i64 0) (v5 := .string ⟨#[]⟩) (v6 := .slice none 0 0) (v7 := .string ⟨#[]⟩) (v8 := .slice (some ⟨w3.heap.size, 0, none⟩) 1 1) l4
  unfold put9 at E
  rw [E]
  refine bodyPost_ret (res_signed _ ((unhide HK3).keep (vbelow_new w3 (.cells #[.int .i64 k, .int .i64 vk, .bool vy, .int .i64 vc, .int .i64 vx, .string vt, .slice va vn vp, .string s, .slice xa xn xc] 29))) rfl rfl) rfl ?_
  have ez := unhide HZ3
  have ew := unhide HW3
  clear HZ3 HW3 b0 b1 b2 b3 b4 b5 b6 b7 b8 c0 c1 c2 c3 c4 c5 c6 c7 c8 f HK3
  rw [ez]
  subst ew
  exact PostX.sgn (w1 := w1) (unhide HH) (unhide HB2) (unhide HR2) (unhide HI) lw1 (unhide HL) (unhide HS)
end Go.Proofs.YthpjejfgoohhfaaGreatDoor

/- What is joined from the left: one round (plain; no walk). -/
namespace Go.Proofs.YthpjejfgoohhfaaGreatDoor
open Go.RowKit Go.MapKept

/-- a node of two kids, whose block is new -/
theorem XB.two {P : Nat → Prop} {w : World} {k : Int} {x y : XT} {u0 u1 u2 u3 u4 u5 u6 u7 u8 v0 v1 v2 v3 v4 v5 v6 v7 v8 : Value} {t : TypeId} (hx : XB P w x #[u0, u1, u2, u3, u4, u5, u6, u7, u8]) (hy : XB P w y #[v0, v1, v2, v3, v4, v5, v6, v7, v8]) (hP : P w.heap.size) :
    XB P (w.alloc (.cells #[u0, u1, u2, u3, u4, u5, u6, u7, u8, v0, v1, v2, v3, v4, v5, v6, v7, v8] t)) (xN k [x, y]) #[.int .i64 k, .int .i64 0, .bool false, .int .i64 0, .int .i64 0, .string ⟨#[]⟩, .slice none 0 0, .string ⟨#[]⟩, .slice (some ⟨w.heap.size, 0, none⟩) 2 2] := by
  unfold xN
  rw [XB]
  refine ⟨by decide, by simp, 0, false, 0, 0, ⟨#[]⟩, _, 2, rfl, rfl, by decide, fun _ => ⟨w.heap.size, 0, rfl, by simp, hP, ?_⟩⟩
  rw [XBL, XBL, XBL]
  refine ⟨⟨_, ⟨u0, u1, u2, u3, u4, u5, u6, u7, u8, rfl, ?_⟩, hx.keep (vbelow_new _ _)⟩, ⟨_, ⟨v0, v1, v2, v3, v4, v5, v6, v7, v8, rfl, ?_⟩, hy.keep (vbelow_new _ _)⟩, trivial⟩
  · simp [go_sem]
  · simp [go_sem]

theorem Nine.put9 {w : World} {b : Nat} {v0 v1 v2 v3 v4 v5 v6 v7 v8 : Value} (h : K9 w b) : Nine (put9 w b v0 v1 v2 v3 v4 v5 v6 v7 v8) b 0 #[v0, v1, v2, v3, v4, v5, v6, v7, v8] := by
  obtain ⟨u0, u1, u2, u3, u4, u5, u6, u7, u8, c0, c1, c2, c3, c4, c5, c6, c7, c8, f⟩ := h.all
  refine ⟨v0, v1, v2, v3, v4, v5, v6, v7, v8, rfl, ?_⟩
  unfold Go.Proofs.YthpjejfgoohhfaaGreatDoor.put9
  simp [go_sem, c0, c1, c2, c3, c4, c5, c6, c7, c8]

theorem K9.put9 {w : World} {b c : Nat} {v0 v1 v2 v3 v4 v5 v6 v7 v8 : Value} (h : K9 w c) (hne : c ≠ b) : K9 (put9 w b v0 v1 v2 v3 v4 v5 v6 v7 v8) c := h.but put9_but hne

theorem ps_JF (l : List Tk) (vw : Tree → Int) (n : Nat) (lev : Int) (o i : Nat) (h : lev ≠ 6) : (ps l vw (n + 1)).J lev o i = onOk ((ps l vw n).J (lev + 1) o i) fun x j => (ps l vw n).K lev o x j := by
  rw [ps_J, jF, if_neg h]

theorem heap_set_same (w : World) (b j : Nat) (cs : Array Value) (t : TypeId) (v : Value) (h : w.heap[b]? = some (.cells cs t (0, 0))) : (w.setCell ⟨b, j, none⟩ v).heap[b]? = some (.cells (cs.setIfInBounds j v) t (0, 0)) := by
  exact heap_setCell_same w b j cs t v h
theorem K9.one {w : World} {b : Nat} (j : Nat) (v : Value) (h : K9 w b) : K9 (w.setCell ⟨b, j, none⟩ v) b := by
  obtain ⟨cs, t, q, hs⟩ := h
  exact ⟨_, t, heap_set_same w b j cs t v q, by simpa using hs⟩
theorem K9.self {w : World} {b : Nat} {v0 v1 v2 v3 v4 v5 v6 v7 v8 : Value} (h : K9 w b) : K9 (Go.Proofs.YthpjejfgoohhfaaGreatDoor.put9 w b v0 v1 v2 v3 v4 v5 v6 v7 v8) b :=
  ((((((((h.one 0 v0).one 1 v1).one 2 v2).one 3 v3).one 4 v4).one 5 v5).one 6 v6).one 7 v7).one 8 v8

/-- how what was read so far goes on -/
def JG (l : List Tk) (vw : Tree → Int) (M : Nat) (L : Int) (o : Nat) (final r : PR) : Prop :=
  (r.1 ≠ 0 → final.1 = r.1) ∧ (r.1 = 0 → ∃ n, final = (ps l vw (n + 1)).K L o r.2.1 r.2.2 ∧ 12 * (l.length - r.2.2) ≤ n + 1 ∧ n + 1 ≤ M)
/-- .. and how it ended -/
def JE (final r : PR) : Prop := (r.1 ≠ 0 → final.1 = r.1) ∧ (r.1 = 0 → final = r)

theorem JG.start {l : List Tk} {vw : Tree → Int} {L : Int} {o i n : Nat} {r : PR} (hn : 12 * (l.length - i) + 1 ≤ n) (hij : r.1 = 0 → i ≤ r.2.2) : JG l vw n L o (onOk r fun x j => (ps l vw n).K L o x j) r := by
  refine ⟨fun h => by rw [onOk_no h], fun h => ?_⟩
  obtain ⟨n', rfl⟩ : ∃ n', n = n' + 1 := ⟨n - 1, by omega⟩
  have := hij h
  exact ⟨n', by unfold onOk; rw [if_pos h], by omega, by omega⟩

theorem JG.stop {l : List Tk} {vw : Tree → Int} {M : Nat} {L : Int} {o : Nat} {final r : PR} (h : JG l vw M L o final r) (hr : r.1 = 0) (hj : jointF l r.2.2 L = none) : JE final r := by
  refine ⟨h.1, fun _ => ?_⟩
  obtain ⟨n, e, _⟩ := h.2 hr
  rw [e, ps_K]
  simp only [kF, hj]
  rw [← hr]

theorem jointF_lt {l : List Tk} {j : Nat} {L k : Int} (h : jointF l j L = some k) : j < l.length := by
  unfold jointF at h
  cases q : l[j]? with
  | none => rw [q] at h; cases h
  | some t => exact (List.getElem?_eq_some_iff.1 q).1

/-- one more is joined -/
theorem JG.next {l : List Tk} {vw : Tree → Int} {M : Nat} {L : Int} {o : Nat} {final r : PR} {k : Int} (h : JG l vw M L o final r) (hr : r.1 = 0) (hj : jointF l r.2.2 L = some k) :
    ∃ n, 12 * (l.length - (r.2.2 + 1)) + 11 ≤ n ∧ n ≤ M ∧ ∀ y, y = (ps l vw n).J (L + 1) o (r.2.2 + 1) → (y.1 = 0 → r.2.2 + 1 ≤ y.2.2) →
      (L = 3 → JE final (if y.1 = 0 then (0, xN k [r.2.1, y.2.1], y.2.2) else (y.1, noX, y.2.2))) ∧ (L ≠ 3 → JG l vw M L o final (if y.1 = 0 then (0, xN k [r.2.1, y.2.1], y.2.2) else (y.1, noX, y.2.2))) := by
  obtain ⟨n, e, hn, hM⟩ := h.2 hr
  have lt := jointF_lt hj
  refine ⟨n, by omega, by omega, fun y hy hyj => ?_⟩
  rw [ps_K] at e
  simp only [kF, hj] at e
  rw [← hy] at e
  by_cases q : y.1 = 0
  · rw [if_pos q]
    have e2 : final = if L = 3 then (0, xN k [r.2.1, y.2.1], y.2.2) else (ps l vw n).K L o (xN k [r.2.1, y.2.1]) y.2.2 := by
      rw [e]; unfold onOk; rw [if_pos q]
    have := hyj q
    refine ⟨fun h3 => ⟨fun c => absurd rfl c, fun _ => by rw [e2, if_pos h3]⟩, fun h3 => ⟨fun c => absurd rfl c, fun _ => ?_⟩⟩
    obtain ⟨n', rfl⟩ : ∃ n', n = n' + 1 := ⟨n - 1, by omega⟩
    exact ⟨n', by rw [e2, if_neg h3], by simp only; omega, by omega⟩
  · rw [if_neg q]
    have e2 : final.1 = y.1 := by rw [e, onOk_no q]
    exact ⟨fun _ => ⟨fun _ => e2, fun c => absurd c q⟩, fun _ => ⟨fun _ => e2, fun c => absurd c q⟩⟩

/-- while it is joined: what lies in memory -/
structure JL (R g m : Nat) (l : List Tk) (e : Int) (o i : Nat) (w : World) (b4 b6 : Nat) (r : PR) (j : Nat) (cs : Array Value) (err : Value) (wr : World) : Prop where
  but : But R w wr
  k4 : K9 wr b4
  k6 : K9 wr b6
  at6 : Nine wr b6 0 cs
  x9 : X9 cs
  rd : RD wr R g m l e o j
  ij : i ≤ j
  res : if r.1 = 0 then err = .nilIface ∧ j = r.2.2 ∧ XB (fun b => w.heap.size ≤ b ∧ b ≠ b4 ∧ b ≠ b6) wr r.2.1 cs else UV r.1 err

theorem JL.keep {R g m : Nat} {l : List Tk} {e : Int} {o i : Nat} {w : World} {b4 b6 : Nat} {r : PR} {j : Nat} {cs : Array Value} {err : Value} {wr wq : World} (h : JL R g m l e o i w b4 b6 r j cs err wr) (hb : Below wr.heap.size wr wq) : JL R g m l e o i w b4 b6 r j cs err wq := by
  refine ⟨h.but.trans (But.of hb), h.k4.keep hb, h.k6.keep hb, h.at6.below hb h.k6.low, h.x9, h.rd.keep hb, h.ij, ?_⟩
  have := h.res
  split
  · rename_i q
    rw [if_pos q] at this
    exact ⟨this.1, this.2.1, this.2.2.keep hb⟩
  · rename_i q
    rw [if_neg q] at this
    exact this

/-- the end -/
theorem PostX.jl {R g m : Nat} {l : List Tk} {e : Int} {o i : Nat} {w : World} {b4 b6 : Nat} {final r : PR} {j : Nat} {v0 v1 v2 v3 v4 v5 v6 v7 v8 err : Value} {wr : World} (h0 : RD w R g m l e o i) (h : JL R g m l e o i w b4 b6 r j #[v0, v1, v2, v3, v4, v5, v6, v7, v8] err wr) (hb : w.heap.size ≤ b4) (hE : JE final r) :
    PostX R g m l e o i final w (.returned (.tuple #[.agg #[v0, v1, v2, v3, v4, v5, v6, v7, v8], err])) (put9 wr b4 v0 v1 v2 v3 v4 v5 v6 v7 v8) := by
  refine PostX.end h0 h.but h.rd h.ij put9_but (put9_below hb) hb h.x9 ?_
  have hr := h.res
  by_cases q : r.1 = 0
  · rw [if_pos q] at hr
    rw [hE.2 q, if_pos q]
    refine ⟨hr.1, hr.2.1, ?_⟩
    have p : But b4 wr (put9 wr b4 v0 v1 v2 v3 v4 v5 v6 v7 v8) := put9_but
    exact (hr.2.2.stay p.size fun b hb' hp => p.block b hb' hp.2.1).mono fun b _ hp => hp.1
  · rw [if_neg q] at hr
    rw [hE.1 q, if_neg q]
    exact hr

/-- the first one -/
theorem JL.start {R g m : Nat} {l : List Tk} {e : Int} {o i : Nat} {w w0 w1 : World} {b4 : Nat} {r : PR} {j : Nat} {v0 v1 v2 v3 v4 v5 v6 v7 v8 err : Value} {t : TypeId} (hb0 : But R w w0) (hb1 : But R w0 w1) (k4 : K9 w1 b4) (h9 : X9 #[v0, v1, v2, v3, v4, v5, v6, v7, v8]) (rd : RD w1 R g m l e o j) (ij : i ≤ j) (l4 : b4 < w0.heap.size)
    (res : if r.1 = 0 then err = .nilIface ∧ j = r.2.2 ∧ XB (w0.heap.size ≤ ·) w1 r.2.1 #[v0, v1, v2, v3, v4, v5, v6, v7, v8] else UV r.1 err) :
    JL R g m l e o i w b4 w1.heap.size r j #[v0, v1, v2, v3, v4, v5, v6, v7, v8] err (w1.alloc (.cells #[v0, v1, v2, v3, v4, v5, v6, v7, v8] t)) := by
  have hb := vbelow_new w1 (.cells #[v0, v1, v2, v3, v4, v5, v6, v7, v8] t)
  refine ⟨(hb0.trans hb1).trans (But.of hb), k4.keep hb, K9.new _ _ _ _ _ _ _ _ _ _ _, ⟨v0, v1, v2, v3, v4, v5, v6, v7, v8, rfl, (V9.new w1 t v0 v1 v2 v3 v4 v5 v6 v7 v8).tell⟩, h9, rd.keep hb, ij, ?_⟩
  have z1 := hb1.size
  have z0 := hb0.size
  split
  · rename_i q
    rw [if_pos q] at res
    have h2 : XB (fun b => w.heap.size ≤ b ∧ b ≠ b4 ∧ b ≠ w1.heap.size) w1 r.2.1 #[v0, v1, v2, v3, v4, v5, v6, v7, v8] := res.2.2.mono fun b hb' (hp : w0.heap.size ≤ b) => ⟨by omega, by omega, by omega⟩
    exact ⟨res.1, res.2.1, h2.keep hb⟩
  · rename_i q
    rw [if_neg q] at res
    exact res

/-- one more -/
theorem JL.next {R g m : Nat} {l : List Tk} {e : Int} {o i : Nat} {w wr wC wD : World} {b4 b6 b10 : Nat} {r y : PR} {j jp : Nat} {k : Int} {u0 u1 u2 u3 u4 u5 u6 u7 u8 v0 v1 v2 v3 v4 v5 v6 v7 v8 err : Value} {t : TypeId} (h : JL R g m l e o i w b4 b6 r j #[u0, u1, u2, u3, u4, u5, u6, u7, u8] .nilIface wr) (hr : r.1 = 0) (h0 : RD w R g m l e o i) (hw4 : w.heap.size ≤ b4) (hw6 : w.heap.size ≤ b6) (h46 : b4 ≠ b6)
    (hbC : But R wr wC) (hl10 : b10 < wC.heap.size) (hw10 : wr.heap.size ≤ b10) (hbD : But R wC wD) (rd : RD wD R g m l e o jp) (ij : j + 1 ≤ jp)
    (res : if y.1 = 0 then err = .nilIface ∧ jp = y.2.2 ∧ XB (wC.heap.size ≤ ·) wD y.2.1 #[v0, v1, v2, v3, v4, v5, v6, v7, v8] else UV y.1 err) :
    JL R g m l e o i w b4 b6 (if y.1 = 0 then (0, xN k [r.2.1, y.2.1], y.2.2) else (y.1, noX, y.2.2)) jp #[.int .i64 k, .int .i64 0, .bool false, .int .i64 0, .int .i64 0, .string ⟨#[]⟩, .slice none 0 0, .string ⟨#[]⟩, .slice (some ⟨(put9 wD b10 v0 v1 v2 v3 v4 v5 v6 v7 v8).heap.size, 0, none⟩) 2 2] err
      (put9 ((put9 wD b10 v0 v1 v2 v3 v4 v5 v6 v7 v8).alloc (.cells #[u0, u1, u2, u3, u4, u5, u6, u7, u8, v0, v1, v2, v3, v4, v5, v6, v7, v8] t)) b6 (.int .i64 k) (.int .i64 0) (.bool false) (.int .i64 0) (.int .i64 0) (.string ⟨#[]⟩) (.slice none 0 0) (.string ⟨#[]⟩) (.slice (some ⟨(put9 wD b10 v0 v1 v2 v3 v4 v5 v6 v7 v8).heap.size, 0, none⟩) 2 2)) := by
  have l4 := h.k4.low
  have l6 := h.k6.low
  have lR := h0.low
  have zC := hbC.size
  have zD := hbD.size
  have zw := h.but.size
  have hbrD := hbC.trans hbD
  have bE : But b10 wD (put9 wD b10 v0 v1 v2 v3 v4 v5 v6 v7 v8) := put9_but
  have BE : Below wr.heap.size wD (put9 wD b10 v0 v1 v2 v3 v4 v5 v6 v7 v8) := put9_below hw10
  have K4 : K9 (put9 wD b10 v0 v1 v2 v3 v4 v5 v6 v7 v8) b4 := (h.k4.but hbrD (by omega)).put9 (by omega)
  have K6 : K9 (put9 wD b10 v0 v1 v2 v3 v4 v5 v6 v7 v8) b6 := (h.k6.but hbrD (by omega)).put9 (by omega)
  have RE : RD (put9 wD b10 v0 v1 v2 v3 v4 v5 v6 v7 v8) R g m l e o jp := rd.other bE (Nat.lt_of_lt_of_le h.rd.low hw10) (Nat.lt_of_lt_of_le h.rd.tk.low hw10) (Nat.lt_of_lt_of_le h.rd.mp.low hw10)
  have BW : But R w (put9 wD b10 v0 v1 v2 v3 v4 v5 v6 v7 v8) := (h.but.trans hbrD).on (BE.mono zw)
  have hx : XB (fun b => w.heap.size ≤ b ∧ b ≠ b4 ∧ b ≠ b6) (put9 wD b10 v0 v1 v2 v3 v4 v5 v6 v7 v8) r.2.1 #[u0, u1, u2, u3, u4, u5, u6, u7, u8] := by
    have q := h.res
    rw [if_pos hr] at q
    refine q.2.2.stay (Nat.le_trans (Nat.le_trans zC zD) bE.size) fun b hb hp => ?_
    have hbR : b ≠ R := by
      intro c
      have q1 := h0.low
      have q2 := hp.1
      omega
    exact (bE.block b (by omega) (by omega)).trans (hbrD.block b hb hbR)
  have zE : wD.heap.size ≤ (put9 wD b10 v0 v1 v2 v3 v4 v5 v6 v7 v8).heap.size := bE.size
  have hy : y.1 = 0 → XB (fun b => w.heap.size ≤ b ∧ b ≠ b4 ∧ b ≠ b6) (put9 wD b10 v0 v1 v2 v3 v4 v5 v6 v7 v8) y.2.1 #[v0, v1, v2, v3, v4, v5, v6, v7, v8] := fun q => by
    rw [if_pos q] at res
    exact (res.2.2.stay zE fun b hb (hp : wC.heap.size ≤ b) => bE.block b hb (by omega)).mono fun b _ (hp : wC.heap.size ≤ b) => ⟨by omega, by omega, by omega⟩
  generalize put9 wD b10 v0 v1 v2 v3 v4 v5 v6 v7 v8 = wE at bE BE K4 K6 RE BW hx zE hy ⊢
  have BN := vbelow_new wE (.cells #[u0, u1, u2, u3, u4, u5, u6, u7, u8, v0, v1, v2, v3, v4, v5, v6, v7, v8] t)
  have K4' := K4.keep BN
  have K6' := K6.keep BN
  have RN := RE.keep BN
  have BWN := BW.trans (But.of BN)
  have l6' := K6.low
  have hxy : y.1 = 0 → XB (fun b => w.heap.size ≤ b ∧ b ≠ b4 ∧ b ≠ b6) (wE.alloc (.cells #[u0, u1, u2, u3, u4, u5, u6, u7, u8, v0, v1, v2, v3, v4, v5, v6, v7, v8] t)) (xN k [r.2.1, y.2.1]) #[.int .i64 k, .int .i64 0, .bool false, .int .i64 0, .int .i64 0, .string ⟨#[]⟩, .slice none 0 0, .string ⟨#[]⟩, .slice (some ⟨wE.heap.size, 0, none⟩) 2 2] := fun q => XB.two hx (hy q) ⟨by omega, by omega, by omega⟩
  generalize wE.alloc (.cells #[u0, u1, u2, u3, u4, u5, u6, u7, u8, v0, v1, v2, v3, v4, v5, v6, v7, v8] t) = wF at *
  have bG : But b6 wF (put9 wF b6 (.int .i64 k) (.int .i64 0) (.bool false) (.int .i64 0) (.int .i64 0) (.string ⟨#[]⟩) (.slice none 0 0) (.string ⟨#[]⟩) (.slice (some ⟨wE.heap.size, 0, none⟩) 2 2)) := put9_but
  have hR6 : R < b6 := Nat.lt_of_lt_of_le h0.low hw6
  have hg6 : g < b6 := Nat.lt_of_lt_of_le h0.tk.low hw6
  have hm6 : m < b6 := Nat.lt_of_lt_of_le h0.mp.low hw6
  refine ⟨BWN.on (put9_below hw6), K4'.put9 h46, ?_, Nine.put9 K6', ⟨_, _, _, _, _, _, _, _, _, _, _, _, _, rfl⟩, RN.other bG hR6 hg6 hm6, by have := h.ij; omega, ?_⟩
  · exact K9.self K6'
  · by_cases q : y.1 = 0
    · rw [if_pos q]
      rw [if_pos q] at res
      rw [if_pos rfl]
      exact ⟨res.1, res.2.1, (hxy q).stay bG.size fun b hb hp => bG.block b hb hp.2.2⟩
    · rw [if_neg q]
      rw [if_neg q] at res
      rw [if_neg q]
      exact res
end Go.Proofs.YthpjejfgoohhfaaGreatDoor

/- Walks: joined. -/
namespace Go.Proofs.YthpjejfgoohhfaaGreatDoor
open Go.RowKit Go.MapKept

theorem res_joined {W : World} {b : Nat} {v0 v1 v2 v3 v4 v5 v6 v7 v8 err : Value} (tmps : Array Value) (K : K9 W b) (h2 : tmps.getD 4 undef = .pointer (some ⟨b, 0, none⟩)) (h3 : tmps.getD 5 undef = err) :
    (results Tryz.f47 tmps).run Tryz.prog (put9 W b v0 v1 v2 v3 v4 v5 v6 v7 v8) = .ok (.tuple #[.agg #[v0, v1, v2, v3, v4, v5, v6, v7, v8], err]) (put9 W b v0 v1 v2 v3 v4 v5 v6 v7 v8) := by
  obtain ⟨u0, u1, u2, u3, u4, u5, u6, u7, u8, c0, c1, c2, c3, c4, c5, c6, c7, c8, _⟩ := K.all
  simp only [Array.getD_eq_getD_getElem?] at h2 h3
  unfold put9
  simp [results, Tryz.results47, go_sem, h2, h3, c0, c1, c2, c3, c4, c5, c6, c7, c8]

set_option maxRecDepth 100000 in
set_option maxHeartbeats 8000000 in
theorem joined_six {w : World} {R g m : Nat} {l : List Tk} {e : Int} {o i : Nat} (h : RD w R g m l e o i) (rP : PR)
    (hP : ∀ W, RD W R g m l e o i → Calls Tryz.prog 71 #[.pointer (some ⟨R, 0, none⟩)] W (PostX R g m l e o i rP W)) :
    Calls Tryz.prog 47 #[.pointer (some ⟨R, 0, none⟩), .int .i64 6] w (PostX R g m l e o i rP w) := by
  obtain ⟨w0, hw0⟩ : ∃ w0, w0 = w.alloc (.cells zero9 29) := ⟨_, rfl⟩
  have B0 : Below w.heap.size w w0 := by rw [hw0]; exact vbelow_new _ _
  have K0 : K9 w0 w.heap.size := by rw [hw0]; exact K9.new w 29 _ _ _ _ _ _ _ _ _
  have z0 : w0.heap.size = w.heap.size + 1 := by rw [hw0]; simp
  have CP := hide (hP w0 (h.keep B0))
  have HH := hide h
  have HB0 := hide B0
  have HK := hide K0
  have HZ1 : Hid (w.heap.size < w0.heap.size) := hide (by omega)
  clear h B0 K0 z0 hP
  go_enter Tryz.func47, Tryz.ntmps47
  go_upto_region 2 with fail
  rw [← hw0]
  clear hw0
  go_wp2_with fail
  refine (unhide CP).mono ?_
  rintro en w2 ⟨hb2, cs, err, j, rfl, h9, hr2, hij, hres⟩
  obtain ⟨k, vk, vy, vc, vx, vt, va, vn, vp, s, xa, xn, xc, rfl⟩ := h9
  have HK2 := hide ((unhide HK).but hb2 (by have := (unhide HH).low; omega))
  have HB2 := hide hb2
  have HR2 := hide hr2
  have HS := hide hres
  have HI := hide hij
  obtain ⟨u0, u1, u2, u3, u4, u5, u6, u7, u8, c0, c1, c2, c3, c4, c5, c6, c7, c8, f⟩ := (unhide HK2).all
  clear hb2 hr2 hres hij CP HK
  go_wp2
  refine bodyPost_ret (res_joined _ (unhide HK2) rfl rfl) rfl ?_
  exact PostX.via (b := w.heap.size) (unhide HH) (But.of (unhide HB0)) (unhide HB2) (unhide HR2) (unhide HI) (Nat.le_refl _) ⟨_, _, _, _, _, _, _, _, _, _, _, _, _, rfl⟩ (unhide HS) (Nat.le_refl _) (unhide HZ1)
end Go.Proofs.YthpjejfgoohhfaaGreatDoor

/- Expressions that a slice owns (plain; no walk). -/
namespace Go.Proofs.YthpjejfgoohhfaaGreatDoor
open Go.RowKit Go.MapKept

/-- cells that are expressions -/
def XC (P : Nat → Prop) (w : World) : List XT → List Value → Prop
  | [], cs => cs = []
  | x :: xs, cs => ∃ v0 v1 v2 v3 v4 v5 v6 v7 v8 rest, cs = v0 :: v1 :: v2 :: v3 :: v4 :: v5 :: v6 :: v7 :: v8 :: rest ∧ XB P w x #[v0, v1, v2, v3, v4, v5, v6, v7, v8] ∧ XC P w xs rest
theorem XC.stay {P Q : Nat → Prop} {w w' : World} (hz : w.heap.size ≤ w'.heap.size) (hP : ∀ b, b < w.heap.size → P b → Q b ∧ w'.heap[b]? = w.heap[b]?) : ∀ {xs : List XT} {cs : List Value}, XC P w xs cs → XC Q w' xs cs
  | [], _, h => h
  | _ :: _, _, ⟨v0, v1, v2, v3, v4, v5, v6, v7, v8, rest, h1, h2, h3⟩ =>
    ⟨v0, v1, v2, v3, v4, v5, v6, v7, v8, rest, h1, (h2.mono (Q := fun b => P b ∧ b < w.heap.size) fun _ l p => ⟨p, l⟩).stay hz (fun b l p => (hP b l p.1).2) |>.mono fun b _ p => (hP b p.2 p.1).1, XC.stay hz hP h3⟩
theorem XC.app {P : Nat → Prop} {w : World} {ys : List XT} {ds : List Value} (k : XC P w ys ds) : ∀ {xs : List XT} {cs : List Value}, XC P w xs cs → XC P w (xs ++ ys) (cs ++ ds)
  | [], _, h => by rw [XC] at h; subst h; exact k
  | _ :: _, _, ⟨v0, v1, v2, v3, v4, v5, v6, v7, v8, rest, h1, h2, h3⟩ => ⟨v0, v1, v2, v3, v4, v5, v6, v7, v8, rest ++ ds, by rw [h1]; rfl, h2, XC.app k h3⟩
theorem XC.row {P : Nat → Prop} {w : World} {b : Nat} : ∀ {xs : List XT} {cs : List Value} {off : Nat}, XC P w xs cs → (∀ j u, cs[j]? = some u → w.cell? ⟨b, off + j, none⟩ = some u) → XBL P w xs b off
  | [], _, _, _, _ => by rw [XBL]; trivial
  | x :: xs, _, off, ⟨v0, v1, v2, v3, v4, v5, v6, v7, v8, rest, h1, h2, h3⟩, hc => by
    subst h1
    rw [XBL]
    refine ⟨⟨_, ⟨v0, v1, v2, v3, v4, v5, v6, v7, v8, rfl, hc 0 _ rfl, hc 1 _ rfl, hc 2 _ rfl, hc 3 _ rfl, hc 4 _ rfl, hc 5 _ rfl, hc 6 _ rfl, hc 7 _ rfl, hc 8 _ rfl⟩, h2⟩, XC.row h3 fun j u hj => ?_⟩
    have := hc (j + 9) u (by simpa using hj)
    rwa [show off + (j + 9) = off + 9 + j by omega] at this

/-- expressions that a slice owns -/
def XO (B : Nat) (w : World) (sv : Value) (xs : List XT) : Prop := ∃ cs, w.ownsRow B 29 9 sv xs.length cs ∧ XC (fun b => B ≤ b ∧ b < w.heap.size ∧ sv.ownBlock ≠ some b) w xs cs
theorem XO.nil (B : Nat) (w : World) : XO B w (.slice none 0 0) [] := ⟨[], World.ownsRow_nil _ _ _ _, rfl⟩
theorem XO.stay {B : Nat} {w w' : World} {sv : Value} {xs : List XT} (h : XO B w sv xs) (hz : w.heap.size ≤ w'.heap.size) (hb : ∀ b, B ≤ b → b < w.heap.size → w'.heap[b]? = w.heap[b]?) : XO B w' sv xs := by
  obtain ⟨cs, ⟨h1, h2⟩, h3⟩ := h
  refine ⟨cs, ⟨h1, ?_⟩, h3.stay hz fun b l p => ⟨⟨p.1, Nat.lt_of_lt_of_le l hz, p.2.2⟩, hb b p.1 l⟩⟩
  rcases h2 with q | ⟨g, cap, cur, q1, q2, q3, q4⟩
  · exact .inl q
  · exact .inr ⟨g, cap, cur, q1, q2, (hb g q2 (lt_of_block q3)).trans q3, q4⟩
theorem XO.keep {B : Nat} {w w' : World} {sv : Value} {xs : List XT} (h : XO B w sv xs) (hb : Below w.heap.size w w') : XO B w' sv xs := h.stay hb.size fun b _ l => hb.block b l
theorem XO.but {B R : Nat} {w w' : World} {sv : Value} {xs : List XT} (h : XO B w sv xs) (hb : But R w w') (hR : R < B) : XO B w' sv xs := h.stay hb.size fun b q l => hb.block b l (by omega)
theorem XO.shape {B : Nat} {w : World} {sv : Value} {xs : List XT} (h : XO B w sv xs) : ∃ a cap, sv = .slice a xs.length cap := by
  obtain ⟨cs, ⟨_, h2⟩, _⟩ := h
  rcases h2 with ⟨q, z⟩ | ⟨g, cap, cur, q1, _⟩
  · exact ⟨none, 0, by rw [q, z]⟩
  · exact ⟨_, cap, q1⟩
theorem XO.tell {B : Nat} {w : World} {a : Option Addr} {n cap : Nat} {xs : List XT} (h : XO B w (.slice a n cap) xs) : n = xs.length ∧ (xs ≠ [] → ∃ b, a = some ⟨b, 0, none⟩ ∧ B ≤ b ∧ b < w.heap.size ∧ XBL (B ≤ ·) w xs b 0) := by
  obtain ⟨cs, ⟨h1, h2⟩, h3⟩ := h
  rcases h2 with ⟨q, z⟩ | ⟨g, cap', cur, q1, q2, q3, q4, q5, q6, q7⟩
  · cases q
    exact ⟨z.symm, fun c => absurd (List.eq_nil_of_length_eq_zero z) c⟩
  · cases q1
    refine ⟨rfl, fun _ => ⟨g, rfl, q2, lt_of_block q3, ?_⟩⟩
    have h4 : XC (B ≤ ·) w xs cs := h3.stay (Nat.le_refl _) fun b _ p => ⟨p.1, rfl⟩
    refine h4.row fun j u hj => ?_
    rw [← q7, List.getElem?_take] at hj
    split at hj
    · simp [World.cell?, q3]
      simpa using hj
    · cases hj
/-- one more goes behind those that a slice owns -/
theorem XO.next {B : Nat} {w w' : World} {sv sv' : Value} {xs : List XT} {x : XT} {cs : List Value} {v0 v1 v2 v3 v4 v5 v6 v7 v8 : Value} (h2 : XC (fun b => B ≤ b ∧ b < w.heap.size ∧ sv.ownBlock ≠ some b) w xs cs)
    (hx : XB (fun b => B ≤ b ∧ b < w.heap.size ∧ sv.ownBlock ≠ some b) w x #[v0, v1, v2, v3, v4, v5, v6, v7, v8]) (ho : w'.ownsRow B 29 9 sv' (xs.length + 1) (cs ++ [v0, v1, v2, v3, v4, v5, v6, v7, v8])) (hg : w.grownBy w' sv.ownBlock) (hat : sv'.ownBlock = sv.ownBlock ∨ sv'.ownBlock = some w.heap.size) : XO B w' sv' (xs ++ [x]) := by
  have hk : ∀ b, b < w.heap.size → (B ≤ b ∧ b < w.heap.size ∧ sv.ownBlock ≠ some b) → (B ≤ b ∧ b < w'.heap.size ∧ sv'.ownBlock ≠ some b) ∧ w'.heap[b]? = w.heap[b]? := by
    intro b l ⟨hB, hb, hn⟩
    refine ⟨⟨hB, Nat.lt_of_lt_of_le hb hg.size, fun e => ?_⟩, hg.block b hb (fun e => hn e.symm)⟩
    rcases hat with h | h
    · exact hn (h ▸ e)
    · rw [h] at e; cases e; omega
  have k : XC (fun b => B ≤ b ∧ b < w.heap.size ∧ sv.ownBlock ≠ some b) w [x] [v0, v1, v2, v3, v4, v5, v6, v7, v8] := ⟨v0, v1, v2, v3, v4, v5, v6, v7, v8, [], rfl, hx, rfl⟩
  exact ⟨_, by rw [List.length_append]; exact ho, (k.app h2).stay hg.size hk⟩
theorem XO.mem {B : Nat} {w : World} {sv : Value} {xs : List XT} (h : XO B w sv xs) : ∃ cs, w.ownsRow B 29 9 sv xs.length cs ∧ XC (fun b => B ≤ b ∧ b < w.heap.size ∧ sv.ownBlock ≠ some b) w xs cs := h
theorem XO.own {B : Nat} {w : World} {sv : Value} {xs : List XT} (h : XO B w sv xs) {k : Nat} (hk : sv.ownBlock = some k) : B ≤ k ∧ k < w.heap.size := by
  obtain ⟨cs, h1, _⟩ := h
  exact World.ownsRow.lt h1 k hk

theorem info_X : (Tryz.prog.info? 29).map (fun i => (i.zero, i.size, i.bytes)) = some (some (.agg zero9), 9, 120) := by kernel_rfl
theorem info_parts9 (P : Program) (e : TypeId) (z : Array Value) (s b : Nat) (h : (P.info? e).map (fun i => (i.zero, i.size, i.bytes)) = some (some (.agg z), s, b)) : ∃ i, P.info? e = some i ∧ i.zero = some (.agg z) ∧ i.size = s ∧ i.bytes = b := by
  cases hi : P.info? e with
  | none => rw [hi] at h; cases h
  | some i => rw [hi] at h; simp at h; exact ⟨i, rfl, h.1, h.2.1, h.2.2⟩
end Go.Proofs.YthpjejfgoohhfaaGreatDoor
