/- Tests as trees: what is wrong with one, what it says of a value, of which types it may be asked; how it lies in memory (sixteen cells a node). -/
import Derived.Test.YtbdgngfpofohpaaDoorG24
namespace Go.Proofs.YtbdgngfpofohpaaDoor
open Go.RowKit

inductive TS where
  | mk (k : Int) (a b : Tree) (oa ob : Bool) (ks : List TS)

def Tree.kd : Tree → Int | .mk k _ _ _ _ _ => k
/-- a number that may stand in a test -/
def inR (c x : Int) : Prop := Dm.sgn (Dm.V (max c (-c)) x - Dm.V 1 9) ≤ 0 ∧ -6 ≤ x
instance (c x : Int) : Decidable (inR c x) := by unfold inR; infer_instance
/-- what is wrong with a value in a test -/
def valW : Tree → Int
  | .mk k y c x t ks => if (wrongF (.mk k y c x t ks) 0 1).1 = 0 then (if k = 5 then 8 else if k = 3 ∧ ¬ inR c x then 3 else 0) else (wrongF (.mk k y c x t ks) 0 1).1
def oneW (a : Tree) : Int := if valW a = 0 then (if a.kd = 3 ∨ a.kd = 4 then 0 else 9) else valW a
def twoW (a b : Tree) : Int := if valW a = 0 then (if valW b = 0 then (if a.kd = 3 ∨ a.kd = 4 then (if b.kd = a.kd then 0 else 9) else 9) else valW b) else valW a

mutual
def wrongS : TS → Nat → Int
  | .mk k a b _ _ ks, d => if 4 < d then 4 else if k < 1 ∨ 9 < k then 1 else if k = 8 ∨ k = 9 then (if ks.length < 1 ∨ 20 < ks.length then 5 else wrongSL ks (d + 1))
    else if k = 1 then 0 else if k = 2 then valW a else if k = 7 then twoW a b else oneW a
def wrongSL : List TS → Nat → Int
  | [], _ => 0
  | u :: us, d => if wrongS u d = 0 then wrongSL us d else wrongS u d
end

mutual
/-- what a right test says of a right value, in halves -/
def doesS : TS → Tree → Nat
  | .mk k a b oa ob ks, v => if k = 1 then 2 else if k = 2 then eqP v a else if k = 3 then lessH v a else if k = 4 then 2 - lessH a v else if k = 5 then lessH a v else if k = 6 then 2 - lessH v a
    else if k = 7 then min (if oa = true then lessH a v else 2 - lessH v a) (if ob = true then lessH v b else 2 - lessH b v) else if k = 8 then doesL ks v else 2 - doesL ks v
def doesL : List TS → Tree → Nat
  | [], _ => 0
  | u :: us, v => max (doesS u v) (doesL us v)
end

def fitV (k ty : Int) : Bool := k == 1 || ty == 6 || (k == 2 && ty == 2) || (k == 3 && ty == 3) || (k == 4 && ty == 4)
mutual
def fitsS : TS → Int → Bool
  | .mk k a _ _ _ ks, ty => if k = 1 then true else if k = 8 ∨ k = 9 then fitsL ks ty else fitV a.kd ty
def fitsL : List TS → Int → Bool
  | [], _ => true
  | u :: us, ty => fitsS u ty && fitsL us ty
end

mutual
theorem doesS_le : ∀ (T : TS) (v : Tree), doesS T v ≤ 2
  | .mk k a b oa ob ks, v => by
    rw [doesS]
    have h1 := lessH_le v a
    have h2 := lessH_le a v
    have h3 := lessH_le v b
    have h4 := lessH_le b v
    have h5 := eqP_le v a
    have h6 := doesL_le ks v
    repeat' split
    all_goals omega
theorem doesL_le : ∀ (ks : List TS) (v : Tree), doesL ks v ≤ 2
  | [], v => by rw [doesL]; omega
  | u :: us, v => by
    rw [doesL]
    have h1 := doesS_le u v
    have h2 := doesL_le us v
    omega
end

/-- sixteen cells in a row -/
structure C16 (w : World) (b o : Nat) (u : Array Value) : Prop where
  size : u.size = 16
  cell : ∀ i v, u[i]? = some v → w.cell? ⟨b, o + i, none⟩ = some v
theorem C16.below {B : Nat} {w w' : World} {b o : Nat} {u : Array Value} (h : C16 w b o u) (hb : Below B w w') (l : b < B) : C16 w' b o u :=
  ⟨h.size, fun i v hv => (hb.cell (p := ⟨b, o + i, none⟩) l).trans (h.cell i v hv)⟩

theorem C16.tell {w : World} {b o : Nat} {v0 v1 v2 v3 v4 v5 v6 v7 v8 v9 v10 v11 v12 v13 v14 v15 : Value} (h : C16 w b o #[v0, v1, v2, v3, v4, v5, v6, v7, v8, v9, v10, v11, v12, v13, v14, v15]) :
    w.cell? ⟨b, o, none⟩ = some v0 ∧ w.cell? ⟨b, o + 1, none⟩ = some v1 ∧ w.cell? ⟨b, o + 2, none⟩ = some v2 ∧ w.cell? ⟨b, o + 3, none⟩ = some v3 ∧ w.cell? ⟨b, o + 4, none⟩ = some v4 ∧ w.cell? ⟨b, o + 5, none⟩ = some v5 ∧ w.cell? ⟨b, o + 6, none⟩ = some v6 ∧ w.cell? ⟨b, o + 7, none⟩ = some v7 ∧ w.cell? ⟨b, o + 8, none⟩ = some v8 ∧ w.cell? ⟨b, o + 9, none⟩ = some v9 ∧ w.cell? ⟨b, o + 10, none⟩ = some v10 ∧ w.cell? ⟨b, o + 11, none⟩ = some v11 ∧ w.cell? ⟨b, o + 12, none⟩ = some v12 ∧ w.cell? ⟨b, o + 13, none⟩ = some v13 ∧ w.cell? ⟨b, o + 14, none⟩ = some v14 ∧ w.cell? ⟨b, o + 15, none⟩ = some v15 :=
  ⟨h.cell 0 _ rfl, h.cell 1 _ rfl, h.cell 2 _ rfl, h.cell 3 _ rfl, h.cell 4 _ rfl, h.cell 5 _ rfl, h.cell 6 _ rfl, h.cell 7 _ rfl, h.cell 8 _ rfl, h.cell 9 _ rfl, h.cell 10 _ rfl, h.cell 11 _ rfl, h.cell 12 _ rfl, h.cell 13 _ rfl, h.cell 14 _ rfl, h.cell 15 _ rfl⟩
/-- a block of a test's sixteen cells that is carried along -/
structure B16 (w : World) (b : Nat) (u : Array Value) : Prop where
  low : b < w.heap.size
  cell : ∀ i v, u[i]? = some v → w.cell? ⟨b, i, none⟩ = some v
theorem B16.keep {w w' : World} {b n : Nat} {u : Array Value} (h : B16 w b u) (hb : Below n w w') (l : b < n) : B16 w' b u :=
  ⟨Nat.lt_of_lt_of_le h.low hb.size, fun i v hv => (hb.cell (p := ⟨b, i, none⟩) l).trans (h.cell i v hv)⟩
theorem B16.tell {w : World} {b : Nat} {v0 v1 v2 v3 v4 v5 v6 v7 v8 v9 v10 v11 v12 v13 v14 v15 : Value} (h : B16 w b #[v0, v1, v2, v3, v4, v5, v6, v7, v8, v9, v10, v11, v12, v13, v14, v15]) :
    w.cell? ⟨b, 0, none⟩ = some v0 ∧ w.cell? ⟨b, 1, none⟩ = some v1 ∧ w.cell? ⟨b, 2, none⟩ = some v2 ∧ w.cell? ⟨b, 3, none⟩ = some v3 ∧ w.cell? ⟨b, 4, none⟩ = some v4 ∧ w.cell? ⟨b, 5, none⟩ = some v5 ∧ w.cell? ⟨b, 6, none⟩ = some v6 ∧ w.cell? ⟨b, 7, none⟩ = some v7 ∧ w.cell? ⟨b, 8, none⟩ = some v8 ∧ w.cell? ⟨b, 9, none⟩ = some v9 ∧ w.cell? ⟨b, 10, none⟩ = some v10 ∧ w.cell? ⟨b, 11, none⟩ = some v11 ∧ w.cell? ⟨b, 12, none⟩ = some v12 ∧ w.cell? ⟨b, 13, none⟩ = some v13 ∧ w.cell? ⟨b, 14, none⟩ = some v14 ∧ w.cell? ⟨b, 15, none⟩ = some v15 :=
  ⟨h.cell 0 _ rfl, h.cell 1 _ rfl, h.cell 2 _ rfl, h.cell 3 _ rfl, h.cell 4 _ rfl, h.cell 5 _ rfl, h.cell 6 _ rfl, h.cell 7 _ rfl, h.cell 8 _ rfl, h.cell 9 _ rfl, h.cell 10 _ rfl, h.cell 11 _ rfl, h.cell 12 _ rfl, h.cell 13 _ rfl, h.cell 14 _ rfl, h.cell 15 _ rfl⟩
theorem B16.new {w : World} {t : TypeId} {u : Array Value} : B16 (w.alloc (.cells u t)) w.heap.size u :=
  ⟨by simp, fun i v hv => by simp [go_sem, hv]⟩
theorem B16.over {w : World} {b : Nat} {u : Array Value} {o : Obj} (h : B16 w b u) : B16 (w.alloc o) b u := h.keep (vbelow_new _ _) h.low

mutual
/-- a test in memory, below B -/
def MemS (B : Nat) (w : World) : TS → Array Value → Prop
  | .mk k a b oa ob ks, v => ks.length ≤ 9223372036854775807 ∧ ∃ (a0 a1 a2 a3 a4 a5 b0 b1 b2 b3 b4 b5 : Value) (ad : Option Addr) (cap : Nat), Mem B w a #[a0, a1, a2, a3, a4, a5] ∧ Mem B w b #[b0, b1, b2, b3, b4, b5] ∧
    v = #[.int .i64 k, a0, a1, a2, a3, a4, a5, b0, b1, b2, b3, b4, b5, .bool oa, .bool ob, .slice ad ks.length cap] ∧ (ks ≠ [] → ∃ bl off, ad = some ⟨bl, off, none⟩ ∧ bl < B ∧ MemSL B w ks bl off)
def MemSL (B : Nat) (w : World) : List TS → Nat → Nat → Prop
  | [], _, _ => True
  | u :: us, b, off => (∃ cs, C16 w b off cs ∧ MemS B w u cs) ∧ MemSL B w us b (off + 16)
end

mutual
theorem MemS.below {B : Nat} {w w' : World} (hb : Below B w w') : ∀ {T : TS} {v : Array Value}, MemS B w T v → MemS B w' T v
  | .mk k a b oa ob ks, v, h => by
    rw [MemS] at h ⊢
    obtain ⟨h1, a0, a1, a2, a3, a4, a5, b0, b1, b2, b3, b4, b5, ad, cap, ha, hb', hv, hk⟩ := h
    refine ⟨h1, a0, a1, a2, a3, a4, a5, b0, b1, b2, b3, b4, b5, ad, cap, Mem.below hb ha, Mem.below hb hb', hv, fun hne => ?_⟩
    obtain ⟨bl, off, e, hlt, hm⟩ := hk hne
    exact ⟨bl, off, e, hlt, MemSL.below hb hlt hm⟩
theorem MemSL.below {B : Nat} {w w' : World} (hb : Below B w w') : ∀ {ks : List TS} {b off : Nat}, b < B → MemSL B w ks b off → MemSL B w' ks b off
  | [], _, _, _, _ => by rw [MemSL]; trivial
  | u :: us, b, off, hlt, h => by
    rw [MemSL] at h ⊢
    obtain ⟨⟨cs, h6, hm⟩, hr⟩ := h
    exact ⟨⟨cs, h6.below hb hlt, MemS.below hb hm⟩, MemSL.below hb hlt hr⟩
end
mutual
theorem MemS.mono {B B' : Nat} {w : World} (hB : B ≤ B') : ∀ {T : TS} {v : Array Value}, MemS B w T v → MemS B' w T v
  | .mk k a b oa ob ks, v, h => by
    rw [MemS] at h ⊢
    obtain ⟨h1, a0, a1, a2, a3, a4, a5, b0, b1, b2, b3, b4, b5, ad, cap, ha, hb', hv, hk⟩ := h
    refine ⟨h1, a0, a1, a2, a3, a4, a5, b0, b1, b2, b3, b4, b5, ad, cap, Mem.mono hB ha, Mem.mono hB hb', hv, fun hne => ?_⟩
    obtain ⟨bl, off, e, hlt, hm⟩ := hk hne
    exact ⟨bl, off, e, Nat.lt_of_lt_of_le hlt hB, MemSL.mono hB hm⟩
theorem MemSL.mono {B B' : Nat} {w : World} (hB : B ≤ B') : ∀ {ks : List TS} {b off : Nat}, MemSL B w ks b off → MemSL B' w ks b off
  | [], _, _, _ => by rw [MemSL]; trivial
  | u :: us, b, off, h => by
    rw [MemSL] at h ⊢
    obtain ⟨⟨cs, h6, hm⟩, hr⟩ := h
    exact ⟨⟨cs, h6, MemS.mono hB hm⟩, MemSL.mono hB hr⟩
end
theorem MemSL.at {B : Nat} {w : World} : ∀ {ks : List TS} {b off : Nat}, MemSL B w ks b off → ∀ (i : Nat) (u : TS), ks[i]? = some u → ∃ cs, C16 w b (off + i * 16) cs ∧ MemS B w u cs
  | [], b, off, _, i, u, hi => by simp at hi
  | v :: vs, b, off, h, 0, u, hi => by
    rw [MemSL] at h
    simp only [List.getElem?_cons_zero, Option.some.injEq] at hi
    subst hi
    simpa using h.1
  | v :: vs, b, off, h, i + 1, u, hi => by
    rw [MemSL] at h
    obtain ⟨cs, h6, hm⟩ := MemSL.at h.2 i u (by simpa using hi)
    exact ⟨cs, by rw [show off + (i + 1) * 16 = off + 16 + i * 16 by omega]; exact h6, hm⟩
theorem MemS.grow {w w' : World} {T : TS} {v : Array Value} (h : MemS w.heap.size w T v) (hb : Below w.heap.size w w') : MemS w'.heap.size w' T v :=
  (h.below hb).mono hb.size
theorem Mem.six {B : Nat} {w : World} {T : Tree} {a0 a1 a2 a3 a4 a5 : Value} (h : Mem B w T #[a0, a1, a2, a3, a4, a5]) :
    ∃ (y : Bool) (c x : Int) (t : ByteArray) (l : Option Addr) (n m : Nat), a0 = .int .i64 T.kd ∧ a1 = .bool y ∧ a2 = .int .i64 c ∧ a3 = .int .i64 x ∧ a4 = .string t ∧ a5 = .slice l n m := by
  obtain ⟨k, y, c, x, t, ks⟩ := T
  rw [Mem] at h
  obtain ⟨_, _, a, cap, e, _⟩ := h
  simp only [Array.mk.injEq, List.cons.injEq, and_true] at e
  obtain ⟨e0, e1, e2, e3, e4, e5⟩ := e
  exact ⟨y, c, x, t, a, ks.length, cap, e0, e1, e2, e3, e4, e5⟩
theorem tdrop_at {ks : List Tree} {m : Nat} {u : Tree} (hlt : m < ks.length) (hu : ks[m]? = some u) : ks.drop m = u :: ks.drop (m + 1) := by
  rw [List.drop_eq_getElem_cons hlt]
  congr 1
  rw [List.getElem?_eq_getElem hlt] at hu
  exact Option.some.inj hu
theorem bv {w0 wp w1 : World} (h : Below w0.heap.size w0 wp) (k : Below wp.heap.size wp w1) : Below w0.heap.size w0 w1 := h.trans (k.mono h.size)
theorem sdrop_at {ks : List TS} {m : Nat} {u : TS} (hlt : m < ks.length) (hu : ks[m]? = some u) : ks.drop m = u :: ks.drop (m + 1) := by
  rw [List.drop_eq_getElem_cons hlt]
  congr 1
  rw [List.getElem?_eq_getElem hlt] at hu
  exact Option.some.inj hu
end Go.Proofs.YtbdgngfpofohpaaDoor

/- Walks: what is wrong with a value in a test, and with values that others are less or more than, as the program tells. -/
namespace Go.Proofs.YtbdgngfpofohpaaDoor
open Go.RowKit

theorem wrongN_abs {c x : Int} (h : Dm.wrongN c x = 0) : Dm.wrongN (max c (-c)) x = 0 := by
  rcases Int.le_total 0 c with h0 | h0
  · rw [show max c (-c) = c by omega]; exact h
  · rw [show max c (-c) = -c by omega]
    unfold Dm.wrongN at h ⊢
    rw [Int.neg_tmod]
    split at h
    · cases h
    split at h
    · cases h
    · rw [if_neg (by omega), if_neg (by omega)]

set_option maxHeartbeats 2000000 in
theorem inRange_any (c x : Int) (w : World) (h : Dm.wrongN c x = 0) :
    Calls Tryd.prog 38 #[.agg #[.int .i64 c, .int .i64 x]] w fun e w' => e = .returned (.bool (decide (inR c x))) ∧ Below w.heap.size w w' := by
  have CM := hide (fun wx => cmp_ok (max c (-c)) x 1 9 wx (wrongN_abs h) (by decide))
  obtain ⟨p1, p2, p3, p4, _⟩ := Dm.wrong_ok h
  have hn : IntKind.i64.wrap (-c) = -c := by rw [IntKind.wrap_i64]; omega
  have hd : decide (inR c x) = (decide (Dm.sgn (Dm.V (max c (-c)) x - Dm.V 1 9) ≤ 0) && decide (-6 ≤ x)) := by
    by_cases h1 : Dm.sgn (Dm.V (max c (-c)) x - Dm.V 1 9) ≤ 0 <;> by_cases h2 : -6 ≤ x <;> simp only [inR, h1, h2, and_true, and_false, decide_true, decide_false, Bool.and_true, Bool.and_false]
  rw [hd]
  generalize Dm.sgn (Dm.V (max c (-c)) x - Dm.V 1 9) = g at *
  clear hd h p1 p2 p3 p4
  go_enter Tryd.func38, Tryd.ntmps38
  go_wp2_with fail
  refine (unhide CM _).mono ?_
  rintro e w1 ⟨rfl, hb⟩
  have B2 := (vbelow_new w (.cells #[.int .i64 (max c (-c)), .int .i64 x] 23))
  have HB := hide (bv (bv B2 (vbelow_new _ (.cells #[.int .i64 1, .int .i64 9] 23))) hb)
  have q1 : w1.cell? ⟨w.heap.size, 1, none⟩ = some (.int .i64 x) := (hb.cell (p := ⟨w.heap.size, 1, none⟩) (by simp; omega)).trans (by simp [go_sem])
  clear hb B2 CM
  by_cases h1 : g ≤ 0
  · by_cases h2 : -6 ≤ x
    · go_wp2
      go_ret
      exact ⟨by simp [h1, h2], unhide HB⟩
    · go_wp2
      go_ret
      exact ⟨by simp; omega, unhide HB⟩
  · go_wp2
    go_ret
    exact ⟨by simp; omega, unhide HB⟩

/-- what is known when Wrong of a number tells nothing -/
theorem wf_num0 {y : Bool} {c x : Int} {t : ByteArray} {ks : List Tree} (h : (wrongF (.mk 3 y c x t ks) 0 1).1 = 0) : Dm.wrongN c x = 0 := by
  rw [wf_num (by omega)] at h
  exact h

set_option maxHeartbeats 2000000 in
theorem wrongValue_any (T : Tree) (v : Array Value) (B : Nat) (w : World) (hB : B ≤ w.heap.size) (hM : Mem B w T v) (hT : TabsIn B w) :
    Calls Tryd.prog 22 #[.agg v] w fun e w' => e = .returned (.int .i64 (valW T)) ∧ Below w.heap.size w w' := by
  have LW := hide (fun wx (hb : Below w.heap.size w wx) => logicWrong_any T v B wx (Nat.le_trans hB hb.size) (Mem.below (hb.mono hB) hM) (hT.below (hb.mono hB)))
  obtain ⟨k, y, c, x, t, ks⟩ := T
  rw [Mem] at hM
  obtain ⟨_, _, a, cap, rfl, _⟩ := hM
  have HV := hide (show valW (.mk k y c x t ks) = _ from by rw [valW])
  have HN : Hid (k = 3 → (wrongF (.mk k y c x t ks) 0 1).1 = 0 → Dm.wrongN c x = 0) := hide fun e h => by subst e; exact wf_num0 h
  generalize (wrongF (.mk k y c x t ks) 0 1).1 = W at *
  generalize valW (.mk k y c x t ks) = R at *
  clear hT
  go_enter Tryd.func22, Tryd.ntmps22
  go_wp2_with fail
  refine (unhide LW _ (vbelow_new _ _)).mono ?_
  rintro e w1 ⟨rfl, hb⟩
  have HB := hide (bv (vbelow_new w _) hb)
  have BX := Box.new.keep hb (by simp)
  obtain ⟨q0, q1, q2, q3, q4, q5⟩ := BX.tell
  clear hb BX LW
  by_cases h0 : W = 0
  · subst h0
    by_cases k5 : k = 5
    · subst k5
      have HE : Hid (R = 8) := hide (by rw [unhide HV, if_pos rfl, if_pos rfl])
      go_wp2
      go_ret
      rw [unhide HE]
      exact ⟨rfl, unhide HB⟩
    by_cases k3 : k = 3
    · subst k3
      have IR := hide (fun wx => inRange_any c x wx (unhide HN rfl rfl))
      by_cases hr : inR c x
      · have HE : Hid (R = 0) := hide (by rw [unhide HV, if_pos rfl, if_neg (by decide), if_neg (fun h => h.2 hr)])
        rw [decide_eq_true hr] at IR
        go_wp2_with fail
        refine (unhide IR _).mono ?_
        rintro e w2 ⟨rfl, hb⟩
        have HB2 := hide (bv (unhide HB) hb)
        clear hb
        go_wp2
        go_ret
        rw [unhide HE]
        exact ⟨rfl, unhide HB2⟩
      · have HE : Hid (R = 3) := hide (by rw [unhide HV, if_pos rfl, if_neg (by decide), if_pos ⟨rfl, hr⟩])
        rw [decide_eq_false hr] at IR
        go_wp2_with fail
        refine (unhide IR _).mono ?_
        rintro e w2 ⟨rfl, hb⟩
        have HB2 := hide (bv (unhide HB) hb)
        clear hb
        go_wp2
        go_ret
        rw [unhide HE]
        exact ⟨rfl, unhide HB2⟩
    · have HE : Hid (R = 0) := hide (by rw [unhide HV, if_pos rfl, if_neg k5, if_neg (fun h => k3 h.1)])
      have k5' : (k == 5) = false := by simpa using k5
      have k3' : (k == 3) = false := by simpa using k3
      go_wp2
      go_ret
      rw [unhide HE]
      exact ⟨rfl, unhide HB⟩
  · have HE : Hid (R = W) := hide (by rw [unhide HV, if_neg h0])
    have h0' : (W != 0) = true := by simp [h0]
    clear q0 q1 q2 q3 q4 q5
    go_wp2
    go_ret
    rw [unhide HE]
    exact ⟨rfl, unhide HB⟩
end Go.Proofs.YtbdgngfpofohpaaDoor

/- Walks: what is wrong with values that others are less or more than, as the program tells. -/
namespace Go.Proofs.YtbdgngfpofohpaaDoor
open Go.RowKit

def firstW : List Tree → Int
  | [] => 0
  | u :: us => if valW u = 0 then firstW us else valW u
def kindsW (k : Int) : List Tree → Int
  | [] => 0
  | u :: us => if u.kd = k then kindsW k us else 9
theorem firstW_ok {u : Tree} {us : List Tree} (h : valW u = 0) : firstW (u :: us) = firstW us := by rw [firstW, if_pos h]
theorem firstW_no {u : Tree} {us : List Tree} (h : ¬ valW u = 0) : firstW (u :: us) = valW u := by rw [firstW, if_neg h]
theorem kindsW_ok {k : Int} {u : Tree} {us : List Tree} (h : u.kd = k) : kindsW k (u :: us) = kindsW k us := by rw [kindsW, if_pos h]
theorem kindsW_no {k : Int} {u : Tree} {us : List Tree} (h : ¬ u.kd = k) : kindsW k (u :: us) = 9 := by rw [kindsW, if_neg h]
/-- what is wrong with such values, the first of which is of kind k -/
def boundsW (k : Int) (l : List Tree) : Int := if firstW l = 0 then (if k = 3 ∨ k = 4 then kindsW k l else 9) else firstW l
theorem oneW_is (a : Tree) : boundsW a.kd [a] = oneW a := by
  unfold boundsW oneW
  simp only [firstW, kindsW, if_true]
  split <;> simp_all
theorem twoW_is (a b : Tree) : boundsW a.kd [a, b] = twoW a b := by
  unfold boundsW twoW
  simp only [firstW, kindsW, if_true]
  split <;> (try split) <;> simp_all

set_option maxHeartbeats 4000000 in
theorem bounds_any (k0 : Int) (l : List Tree) (w : World) (B p : Nat) (c0 : w.cell? ⟨p, 0, none⟩ = some (.int .i64 k0)) (hB : B ≤ w.heap.size) (hp : p < B) (hm : MemL B w l p 0) (hne : 0 < l.length) (hl : l.length ≤ 2) (hT : TabsIn B w) :
    Calls Tryd.prog 23 #[.slice (some ⟨p, 0, none⟩) l.length l.length] w fun e w' => e = .returned (.int .i64 (boundsW k0 l)) ∧ Below w.heap.size w w' := by
  have VA := hide (fun (T : Tree) (v : Array Value) (wx : World) (hb : Below w.heap.size w wx) (hM : Mem B wx T v) => wrongValue_any T v B wx (Nat.le_trans hB hb.size) hM (hT.below (hb.mono hB)))
  have hm' := hide hm
  have C0 := hide c0
  clear hm hT c0
  go_enter Tryd.func23, Tryd.ntmps23
  go_wp2
  go_loopw [11] (fun i wr => ∃ m : Nat, m ≤ l.length ∧ i = .int .i64 (m : Int) ∧ Hid (firstW l = firstW (l.drop m)) ∧ Hid (Below w.heap.size w wr)) (fun i _ => l.length - (intOf i).toNat)
  case atStart => exact ⟨0, Nat.zero_le _, rfl, hide rfl, hide (Below.refl _ _)⟩
  case round =>
    obtain ⟨m, hml, rfl, H, HB⟩ := hrel
    by_cases hlt2 : m < l.length
    · have hi1 : (m : Int) < (l.length : Int) := by omega
      obtain ⟨u, hu⟩ : ∃ u, l[m]? = some u := ⟨_, List.getElem?_eq_getElem hlt2⟩
      have hdrop := tdrop_at hlt2 hu
      obtain ⟨cs, h6, hmu⟩ := MemL.at (MemL.below ((unhide HB).mono hB) hp (unhide hm')) m u hu
      have HM := hide hmu
      rw [hdrop] at H
      cases u with
      | mk k y c x t kk =>
        rw [Mem] at hmu
        obtain ⟨ht, hk, a', cap', rfl, _⟩ := hmu
        obtain ⟨u0, u1, u2, u3, u4, u5, hu6, c0, c1, c2, c3, c4, c5⟩ := h6
        simp only [Array.mk.injEq, List.cons.injEq, and_true] at hu6
        obtain ⟨rfl, rfl, rfl, rfl, rfl, rfl⟩ := hu6
        rw [Nat.zero_add] at c0 c1 c2 c3 c4 c5
        clear hu hdrop ht hk
        go_wp2_with fail
        have hba := vbelow_new wr (.cells #[.int .i64 k, .bool y, .int .i64 c, .int .i64 x, .string t, .slice a' kk.length cap'] 26)
        have hbw := bv (unhide HB) hba
        refine (unhide VA _ _ _ hbw (Mem.below (hba.mono (Nat.le_trans hB (unhide HB).size)) (unhide HM))).mono ?_
        rintro e w2 ⟨rfl, hb2⟩
        have HB2 := hide (bv hbw hb2)
        clear hb2 hba hbw HB HM
        by_cases hr : valW (.mk k y c x t kk) = 0
        · have hz : (valW (.mk k y c x t kk) != 0) = false := by simp [hr]
          have H2 := hide ((unhide H).trans (firstW_ok (us := l.drop (m + 1)) hr))
          generalize valW (.mk k y c x t kk) = R at *
          clear hr H
          go_wp2
          go_round
          case rel => exact ⟨m + 1, by omega, by go_num, H2, HB2⟩
          case measure => simp [intOf]; omega
        · have hz : (valW (.mk k y c x t kk) != 0) = true := by simp [hr]
          have H2 := hide ((unhide H).trans (firstW_no (us := l.drop (m + 1)) hr))
          have H3 : Hid (boundsW k0 l = valW (.mk k y c x t kk)) := hide (by unfold boundsW; rw [unhide H2, if_neg hr])
          generalize valW (.mk k y c x t kk) = R at *
          clear hr H H2
          go_wp2
          go_ret
          rw [unhide H3]
          exact ⟨rfl, unhide HB2⟩
    · obtain rfl : m = l.length := by omega
      have H2 : Hid (firstW l = 0) := by
        have h := unhide H
        rw [List.drop_length, firstW] at h
        exact hide h
      have c0 := ((unhide HB).cell (p := ⟨p, 0, none⟩) (Nat.lt_of_lt_of_le hp hB)).trans (unhide C0)
      by_cases hk : k0 = 3 ∨ k0 = 4
      · have H3 : Hid (boundsW k0 l = kindsW k0 l) := hide (by unfold boundsW; rw [unhide H2, if_pos rfl, if_pos hk])
        have hk3 : (k0 != 3 && k0 != 4) = false := by rcases hk with rfl | rfl <;> decide
        have HK := hide hk
        clear H2 H
        rcases hk with rfl | rfl
        · go_wp2
          go_loopw [33] (fun i wq => ∃ m : Nat, m ≤ l.length ∧ i = .int .i64 (m : Int) ∧ Hid (kindsW 3 l = kindsW 3 (l.drop m)) ∧ Hid (Below w.heap.size w wq)) (fun i _ => l.length - (intOf i).toNat)
          case atStart => exact ⟨0, Nat.zero_le _, rfl, hide rfl, HB⟩
          case round =>
            obtain ⟨m, hml, rfl, H, HB⟩ := hrel
            clear c0
            by_cases hlt2 : m < l.length
            · have hi1 : (m : Int) < (l.length : Int) := by omega
              obtain ⟨u, hu⟩ : ∃ u, l[m]? = some u := ⟨_, List.getElem?_eq_getElem hlt2⟩
              have hdrop := tdrop_at hlt2 hu
              obtain ⟨cs, h6, hmu⟩ := MemL.at (MemL.below ((unhide HB).mono hB) hp (unhide hm')) m u hu
              rw [hdrop] at H
              cases u with
              | mk k y c x t kk =>
                rw [Mem] at hmu
                obtain ⟨ht, hk, a', cap', rfl, _⟩ := hmu
                obtain ⟨u0, u1, u2, u3, u4, u5, hu6, c0, c1, c2, c3, c4, c5⟩ := h6
                simp only [Array.mk.injEq, List.cons.injEq, and_true] at hu6
                obtain ⟨rfl, rfl, rfl, rfl, rfl, rfl⟩ := hu6
                rw [Nat.zero_add] at c0 c1 c2 c3 c4 c5
                clear hu hdrop ht hk
                have HB2 := hide (bv (unhide HB) (vbelow_new _ (.cells #[.int .i64 k, .bool y, .int .i64 c, .int .i64 x, .string t, .slice a' kk.length cap'] 26)))
                clear HB
                by_cases hr : k = 3
                · have H2 := hide ((unhide H).trans (kindsW_ok (us := l.drop (m + 1)) (show (Tree.mk k y c x t kk).kd = 3 from hr)))
                  subst hr
                  go_wp2
                  go_round
                  case rel => exact ⟨m + 1, by omega, by go_num, H2, HB2⟩
                  case measure => simp [intOf]; omega
                · have H2 := hide ((unhide H3).trans ((unhide H).trans (kindsW_no (us := l.drop (m + 1)) (show ¬ (Tree.mk k y c x t kk).kd = 3 from hr))))
                  have hz := bne_iff_ne.2 hr
                  go_wp2
                  go_ret
                  rw [unhide H2]
                  exact ⟨rfl, unhide HB2⟩
            · obtain rfl : m = l.length := by omega
              have H2 := unhide H
              rw [List.drop_length, kindsW] at H2
              have H4 := hide ((unhide H3).trans H2)
              clear H2
              go_wp2
              go_ret
              rw [unhide H4]
              exact ⟨rfl, unhide HB⟩
        · go_wp2
          go_loopw [33] (fun i wq => ∃ m : Nat, m ≤ l.length ∧ i = .int .i64 (m : Int) ∧ Hid (kindsW 4 l = kindsW 4 (l.drop m)) ∧ Hid (Below w.heap.size w wq)) (fun i _ => l.length - (intOf i).toNat)
          case atStart => exact ⟨0, Nat.zero_le _, rfl, hide rfl, HB⟩
          case round =>
            obtain ⟨m, hml, rfl, H, HB⟩ := hrel
            clear c0
            by_cases hlt2 : m < l.length
            · have hi1 : (m : Int) < (l.length : Int) := by omega
              obtain ⟨u, hu⟩ : ∃ u, l[m]? = some u := ⟨_, List.getElem?_eq_getElem hlt2⟩
              have hdrop := tdrop_at hlt2 hu
              obtain ⟨cs, h6, hmu⟩ := MemL.at (MemL.below ((unhide HB).mono hB) hp (unhide hm')) m u hu
              rw [hdrop] at H
              cases u with
              | mk k y c x t kk =>
                rw [Mem] at hmu
                obtain ⟨ht, hk, a', cap', rfl, _⟩ := hmu
                obtain ⟨u0, u1, u2, u3, u4, u5, hu6, c0, c1, c2, c3, c4, c5⟩ := h6
                simp only [Array.mk.injEq, List.cons.injEq, and_true] at hu6
                obtain ⟨rfl, rfl, rfl, rfl, rfl, rfl⟩ := hu6
                rw [Nat.zero_add] at c0 c1 c2 c3 c4 c5
                clear hu hdrop ht hk
                have HB2 := hide (bv (unhide HB) (vbelow_new _ (.cells #[.int .i64 k, .bool y, .int .i64 c, .int .i64 x, .string t, .slice a' kk.length cap'] 26)))
                clear HB
                by_cases hr : k = 4
                · have H2 := hide ((unhide H).trans (kindsW_ok (us := l.drop (m + 1)) (show (Tree.mk k y c x t kk).kd = 4 from hr)))
                  subst hr
                  go_wp2
                  go_round
                  case rel => exact ⟨m + 1, by omega, by go_num, H2, HB2⟩
                  case measure => simp [intOf]; omega
                · have H2 := hide ((unhide H3).trans ((unhide H).trans (kindsW_no (us := l.drop (m + 1)) (show ¬ (Tree.mk k y c x t kk).kd = 4 from hr))))
                  have hz := bne_iff_ne.2 hr
                  go_wp2
                  go_ret
                  rw [unhide H2]
                  exact ⟨rfl, unhide HB2⟩
            · obtain rfl : m = l.length := by omega
              have H2 := unhide H
              rw [List.drop_length, kindsW] at H2
              have H4 := hide ((unhide H3).trans H2)
              clear H2
              go_wp2
              go_ret
              rw [unhide H4]
              exact ⟨rfl, unhide HB⟩
      · have H3 : Hid (boundsW k0 l = 9) := hide (by unfold boundsW; rw [unhide H2, if_pos rfl, if_neg hk])
        have n3 : (k0 != 3) = true := by simp; omega
        have n4 : (k0 != 4) = true := by simp; omega
        clear H2 H hk
        go_wp2
        go_ret
        rw [unhide H3]
        exact ⟨rfl, unhide HB⟩
end Go.Proofs.YtbdgngfpofohpaaDoor
