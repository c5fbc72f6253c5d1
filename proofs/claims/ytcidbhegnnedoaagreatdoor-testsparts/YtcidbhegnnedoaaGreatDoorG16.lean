/- A walk over tokens: Pass. -/
import Derived.Test.YtcidbhegnnedoaaGreatDoorG15
import Derived.BigRegion
namespace Go.Proofs.YtcidbhegnnedoaaGreatDoor
open Go.RowKit

set_option maxHeartbeats 4000000 in
theorem pass_any (R g i : Nat) (e : Int) (l : List Tk) (w : World) (h : WK w R g l.length i e) (hi : i < l.length) :
    Calls Tryz.prog 92 #[.pointer (some ⟨R, 0, none⟩)] w fun r w' => r = .returned (.tuple #[]) ∧ WK w' R g l.length (i + 1) e ∧ But R w w' := by
  obtain ⟨q, c, h1, h2, h3⟩ := h.left
  have hz := h.free
  have lR := h.low
  obtain rfl := h2 hi
  have hm : min (1 : Int) ((l.length - i : Nat) : Int) = 1 := by omega
  have hc : 1 ≤ c := by omega
  have hc2 : 1 ≤ l.length - i := by omega
  go_enter Tryz.func92, Tryz.ntmps92
  go_wp2_with fail
  go_region
  have e1 : l.length - i - 1 = l.length - (i + 1) := by omega
  rw [e1]
  have HK := hide (h.set (j := i + 1) (by omega) (p := if c = 1 then some ⟨g, i * 5, none⟩ else some ⟨g, i * 5 + 5, none⟩) (c := c - 1) (fun hj => by rw [if_neg (by omega), Nat.add_mul]) (by omega))
  have HB := hide ((But.set (p := R) (j := 0) (w := w) (v := .slice (if c = 1 then some ⟨g, i * 5, none⟩ else some ⟨g, i * 5 + 5, none⟩) (l.length - (i + 1)) (c - 1))).trans (But.of (Below.refl _ _).drew))
  go_end0
  exact ⟨rfl, (unhide HK).keep (Below.refl _ _).drew (unhide HK).low, unhide HB⟩
end Go.Proofs.YtcidbhegnnedoaaGreatDoor

/- Reading a test: a number's token is its value; reader.value of one. -/
namespace Go.Proofs.YtcidbhegnnedoaaGreatDoor
open Go.RowKit

abbrev numA (c x : Int) : Array Value := #[.int .i64 3, .bool false, .int .i64 c, .int .i64 x, .string ⟨#[]⟩, .slice none 0 0]

set_option maxHeartbeats 2000000 in
theorem meant_num (t : Tk) (hk : t.k = 2) (w : World) :
    Calls Tryz.prog 91 #[.agg (tokV t)] w fun r w' => r = .returned (.tuple #[.agg (numA t.c t.x), .bool true]) ∧ Below w.heap.size w w' := by
  obtain ⟨k, tt, c, x, a⟩ := t
  simp only at hk
  subst hk
  go_enter Tryz.func91, Tryz.ntmps91
  go_wp2
  exact bodyPost_ret (v := .tuple #[.agg (numA c x), .bool true]) (by simp [results, Tryz.results91, go_sem]) rfl ⟨rfl, bv (vbelow_new _ _) (vbelow_new _ _)⟩

theorem WK.but {w w' : World} {R g n i p : Nat} {e : Int} (h : WK w R g n i e) (hb : But p w w') (ne : R ≠ p) : WK w' R g n i e := by
  obtain ⟨q, c, h1, h2, h3⟩ := h.left
  exact ⟨Nat.lt_of_lt_of_le h.low hb.size, h.le, ⟨q, c, (hb.cell (q := ⟨R, 0, none⟩) h.low ne).trans h1, h2, h3⟩, (hb.cell (q := ⟨R, 1, none⟩) h.low ne).trans h.fin, (hb.frozen (q := ⟨R, 0, none⟩) h.low ne).trans h.free⟩
theorem take_lit (R g i : Nat) (e : Int) (l : List Tk) (s : ByteArray) (P : Nat) (W : World) (hP : W.heap.size = P) (h : WK W R g l.length i e) (hT : TKS W g l) (hl : l.length ≤ 4000) :
    Calls Tryz.prog 50 #[.pointer (some ⟨R, 0, none⟩), .slice (some ⟨P, 0, none⟩) 1 1] (W.alloc (.cells #[.string s] 9)) fun r w' => r = .returned (.bool (seesL l i [s])) ∧ WK w' R g l.length (if seesL l i [s] = true then i + 1 else i) e ∧ But R W w' := by
  subst hP
  exact (take_any R g i e l [s] W.heap.size _ (h.keep (vbelow_new _ _) h.low) (hT.keep (vbelow_new _ _) hT.low) (TXB.one W _ s) (by simp) hl).mono fun _ _ q => ⟨q.1, q.2.1, (But.of (vbelow_new _ _)).trans q.2.2⟩
theorem take_lit2 (R g i : Nat) (e : Int) (l : List Tk) (s t : ByteArray) (P : Nat) (W : World) (hP : W.heap.size = P) (h : WK W R g l.length i e) (hT : TKS W g l) (hl : l.length ≤ 4000) :
    Calls Tryz.prog 50 #[.pointer (some ⟨R, 0, none⟩), .slice (some ⟨P, 0, none⟩) 2 2] (W.alloc (.cells #[.string s, .string t] 9)) fun r w' => r = .returned (.bool (seesL l i [s, t])) ∧ WK w' R g l.length (if seesL l i [s, t] = true then i + 2 else i) e ∧ But R W w' := by
  subst hP
  exact (take_any R g i e l [s, t] W.heap.size _ (h.keep (vbelow_new _ _) h.low) (hT.keep (vbelow_new _ _) hT.low) (TXB.two W _ s t) (by simp) hl).mono fun _ _ q => ⟨q.1, q.2.1, (But.of (vbelow_new _ _)).trans q.2.2⟩
theorem sees_lit (R g i : Nat) (e : Int) (l : List Tk) (s : ByteArray) (P : Nat) (W : World) (hP : W.heap.size = P) (h : WK W R g l.length i e) (hT : TKS W g l) (hl : l.length ≤ 4000) :
    Calls Tryz.prog 69 #[.pointer (some ⟨R, 0, none⟩), .slice (some ⟨P, 0, none⟩) 1 1] (W.alloc (.cells #[.string s] 9)) fun r w' => r = .returned (.bool (seesL l i [s])) ∧ Below W.heap.size W w' := by
  subst hP
  exact (sees_any R g i e l [s] W.heap.size _ (h.keep (vbelow_new _ _) h.low) (hT.keep (vbelow_new _ _) hT.low) (TXB.one W _ s) (by simp) hl).mono fun _ _ q => ⟨q.1, bv (vbelow_new _ _) q.2⟩

set_option maxHeartbeats 4000000 in
theorem value_num (R g i : Nat) (e : Int) (l : List Tk) (t : Tk) (w : World) (h : WK w R g l.length i e) (hT : TKS w g l) (hg : g ≠ R) (hl : l.length ≤ 4000) (ht : l[i]? = some t) (hk : t.k = 2) :
    Calls Tryz.prog 93 #[.pointer (some ⟨R, 0, none⟩)] w fun r w' => r = .returned (.tuple #[.agg (numA t.c t.x), .nilIface]) ∧ WK w' R g l.length (i + 1) e ∧ But R w w' := by
  have hS : seesL l i [⟨#[45]⟩] = false := by
    rw [seesL, seesB, ht]
    simp [hk]
  have hi : i < l.length := (h.next ht).choose_spec.2.2
  have lR := h.low
  have C1 := hide (fun (W : World) (hb : Below w.heap.size w W) (P : Nat) (hP : W.heap.size = P) => take_lit R g i e l ⟨#[45]⟩ P W hP (h.keep hb h.low) (hT.keep hb hT.low) hl)
  rw [hS] at C1
  have HT := hide hT
  have HH := hide ht
  have HK := hide hk
  clear h hT hS ht hk
  go_enter Tryz.func93, Tryz.ntmps93
  go_wp2_with fail
  refine (unhide C1 _ (vbelow_new w _) _ (by simp)).mono ?_
  rintro r w1 ⟨rfl, k1, b1⟩
  have HW := hide k1
  have XR := hide (Box.new.but b1 (by omega))
  have HB := hide ((But.of (p := R) (vbelow_new w _)).trans b1)
  replace HT := hide ((unhide HT).but (unhide HB) hg)
  clear k1 b1 C1
  have C2 := hide (next_any R g i e l t w1 (unhide HW) (unhide HT) (unhide HH))
  go_wp2_with fail
  refine (unhide C2).mono ?_
  rintro r w2 ⟨rfl, b2⟩
  replace HW := hide ((unhide HW).keep b2 (unhide HW).low)
  replace XR := hide ((unhide XR).keep b2 (unhide XR).low)
  replace HB := hide ((unhide HB).trans (But.of b2))
  clear b2 C2
  have C3 := hide (meant_num t (unhide HK) w2)
  go_wp2_with fail
  refine (unhide C3).mono ?_
  rintro r w3 ⟨rfl, b3⟩
  have l3 : R < w3.heap.size := Nat.lt_of_lt_of_le (unhide HW).low b3.size
  replace HW := hide (((unhide HW).keep b3 (unhide HW).low).keep (vbelow_new w3 (.cells (numA t.c t.x) 26)) (Nat.lt_of_lt_of_le (unhide HW).low b3.size))
  replace XR := hide (((unhide XR).keep b3 (unhide XR).low).over (o := .cells (numA t.c t.x) 26))
  have XV := hide (Box.new (w := w3) (t := 26) (a0 := .int .i64 3) (a1 := .bool false) (a2 := .int .i64 t.c) (a3 := .int .i64 t.x) (a4 := .string ⟨#[]⟩) (a5 := .slice none 0 0))
  replace HB := hide (((unhide HB).trans (But.of b3)).trans (But.of (vbelow_new w3 (.cells (numA t.c t.x) 26))))
  clear b3 C3
  have C4 := hide (pass_any R g i e l _ (unhide HW) hi)
  go_wp2_with fail
  refine (unhide C4).mono ?_
  rintro r w4 ⟨rfl, k4, b4⟩
  have HK4 := hide k4
  have XR4 := (unhide XR).but b4 (by omega)
  have XV4 := (unhide XV).but b4 (by omega)
  replace HB := hide ((unhide HB).trans b4)
  obtain ⟨v0, v1, v2, v3, v4, v5⟩ := XV4.tell
  obtain ⟨c0, c1, c2, c3, c4, c5⟩ := XR4.tell
  obtain ⟨f0, f1, f2, f3, f4, f5⟩ := XR4.thaw
  have lb := XR4.low
  clear k4 b4 C4 XR XV XV4 XR4 HW
  go_wp2
  exact bodyPost_ret (v := .tuple #[.agg (numA t.c t.x), .nilIface]) (by simp [results, Tryz.results93, go_sem, c0, c1, c2, c3, c4, c5]) rfl ⟨rfl, (unhide HK4).but But.put (by omega), (unhide HB).on (below_put6 (Below.refl _ _) (Nat.le_refl _))⟩
end Go.Proofs.YtcidbhegnnedoaaGreatDoor

/- Reading a test: from one number to another one, in brackets. -/
namespace Go.Proofs.YtcidbhegnnedoaaGreatDoor
open Go.RowKit

/-- a block that is carried along, and may be written -/
structure BkA (w : World) (b : Nat) (u : Array Value) : Prop where
  low : b < w.heap.size
  cell : ∀ i v, u[i]? = some v → w.cell? ⟨b, i, none⟩ = some v
  free : ∀ o, w.frozen? ⟨b, o, none⟩ = false
theorem BkA.keep {w w' : World} {b n : Nat} {u : Array Value} (h : BkA w b u) (hb : Below n w w') (l : b < n) : BkA w' b u :=
  ⟨Nat.lt_of_lt_of_le h.low hb.size, fun i v hv => (hb.cell (p := ⟨b, i, none⟩) l).trans (h.cell i v hv), fun o => (hb.frozen (p := ⟨b, o, none⟩) l).trans (h.free o)⟩
theorem BkA.but {w w' : World} {b p : Nat} {u : Array Value} (h : BkA w b u) (hb : But p w w') (ne : b ≠ p) : BkA w' b u :=
  ⟨Nat.lt_of_lt_of_le h.low hb.size, fun i v hv => (hb.cell (q := ⟨b, i, none⟩) h.low ne).trans (h.cell i v hv), fun o => (hb.frozen (q := ⟨b, o, none⟩) h.low ne).trans (h.free o)⟩
theorem BkA.new {w : World} {t : TypeId} {u : Array Value} : BkA (w.alloc (.cells u t)) w.heap.size u :=
  ⟨by simp, fun i v hv => by simp [go_sem, hv], fun o => by simp [go_sem]⟩
theorem BkA.over {w : World} {b : Nat} {u : Array Value} {o : Obj} (h : BkA w b u) : BkA (w.alloc o) b u := h.keep (vbelow_new _ _) h.low
theorem BkA.set {w : World} {b : Nat} {u : Array Value} (h : BkA w b u) (i : Nat) (v : Value) (hi : i < u.size) : BkA (w.setCell ⟨b, i, none⟩ v) b (u.setIfInBounds i v) := by
  obtain ⟨x, hx⟩ : ∃ x, u[i]? = some x := ⟨_, Array.getElem?_eq_getElem hi⟩
  have hc := h.cell i x hx
  refine ⟨by simpa using h.low, fun j y hj => ?_, fun o => ?_⟩
  · by_cases e : i = j
    · subst e
      rw [Array.getElem?_setIfInBounds_self_of_lt hi] at hj
      cases hj
      simp [go_sem, hc]
    · rw [Array.getElem?_setIfInBounds_ne e] at hj
      have := h.cell j y hj
      simp [go_sem, this]
  · have := h.free o
    by_cases e : i = o
    · subst e; simp [go_sem, this]
    · simp [go_sem, this]
theorem BkA.aside {w : World} {b n j : Nat} {u : Array Value} {x : Value} (h : BkA w b u) (ne : b ≠ n) : BkA (w.setCell ⟨n, j, none⟩ x) b u := h.but But.set ne

theorem BkA.tell {w : World} {b : Nat} {v0 v1 v2 v3 v4 v5 v6 v7 v8 v9 v10 v11 v12 v13 v14 v15 : Value} (h : BkA w b #[v0, v1, v2, v3, v4, v5, v6, v7, v8, v9, v10, v11, v12, v13, v14, v15]) :
    w.cell? ⟨b, 0, none⟩ = some v0 ∧ w.cell? ⟨b, 1, none⟩ = some v1 ∧ w.cell? ⟨b, 2, none⟩ = some v2 ∧ w.cell? ⟨b, 3, none⟩ = some v3 ∧ w.cell? ⟨b, 4, none⟩ = some v4 ∧ w.cell? ⟨b, 5, none⟩ = some v5 ∧ w.cell? ⟨b, 6, none⟩ = some v6 ∧ w.cell? ⟨b, 7, none⟩ = some v7 ∧ w.cell? ⟨b, 8, none⟩ = some v8 ∧ w.cell? ⟨b, 9, none⟩ = some v9 ∧ w.cell? ⟨b, 10, none⟩ = some v10 ∧ w.cell? ⟨b, 11, none⟩ = some v11 ∧ w.cell? ⟨b, 12, none⟩ = some v12 ∧ w.cell? ⟨b, 13, none⟩ = some v13 ∧ w.cell? ⟨b, 14, none⟩ = some v14 ∧ w.cell? ⟨b, 15, none⟩ = some v15 :=
  ⟨h.cell 0 _ rfl, h.cell 1 _ rfl, h.cell 2 _ rfl, h.cell 3 _ rfl, h.cell 4 _ rfl, h.cell 5 _ rfl, h.cell 6 _ rfl, h.cell 7 _ rfl, h.cell 8 _ rfl, h.cell 9 _ rfl, h.cell 10 _ rfl, h.cell 11 _ rfl, h.cell 12 _ rfl, h.cell 13 _ rfl, h.cell 14 _ rfl, h.cell 15 _ rfl⟩

set_option maxRecDepth 10000 in
set_option maxHeartbeats 8000000 in
theorem span_any (R g i : Nat) (e : Int) (l : List Tk) (t1 t2 : Tk) (OA : Bool) (w : World) (h : WK w R g l.length i e) (hT : TKS w g l) (hg : g ≠ R) (hl : l.length ≤ 4000) (hO : seesL l i [⟨#[40]⟩] = OA) (h1 : l[i + 1]? = some t1) (k1 : t1.k = 2)
    (hD : seesL l (i + 2) [⟨#[46, 46]⟩] = true) (h2 : l[i + 3]? = some t2) (k2 : t2.k = 2) (hC : seesL l (i + 4) [⟨#[41]⟩] = true) :
    Calls Tryz.prog 94 #[.pointer (some ⟨R, 0, none⟩)] w fun r w' => r = .returned (.tuple #[.agg #[.int .i64 7, .int .i64 3, .bool false, .int .i64 t1.c, .int .i64 t1.x, .string ⟨#[]⟩, .slice none 0 0, .int .i64 3, .bool false, .int .i64 t2.c, .int .i64 t2.x, .string ⟨#[]⟩, .slice none 0 0, .bool OA, .bool true, .slice none 0 0], .nilIface]) ∧ WK w' R g l.length (i + 5) e ∧ But R w w' := by
  have lR := h.low
  have lg := hT.low
  have hi : i < l.length := by
    rcases Nat.lt_or_ge (i + 1) l.length with q | q
    · omega
    · rw [List.getElem?_eq_none q] at h1; cases h1
  have HW := hide h
  have HT := hide hT
  have HA := hide h1
  have HA2 := hide h2
  have HK1 := hide k1
  have HK2 := hide k2
  have HO := hide hO
  have HD := hide hD
  have HC := hide hC
  clear h hT h1 h2 k1 k2 hO hD hC
  have C1 := hide (fun (W : World) (hb : Below w.heap.size w W) (P : Nat) (hP : W.heap.size = P) => sees_lit R g i e l ⟨#[40]⟩ P W hP ((unhide HW).keep hb (unhide HW).low) ((unhide HT).keep hb (unhide HT).low) hl)
  rw [unhide HO] at C1
  go_enter Tryz.func94, Tryz.ntmps94
  go_wp2_with fail
  refine (unhide C1 _ (vbelow_new w _) _ (by simp)).mono ?_
  rintro r w1 ⟨rfl, b1⟩
  have l1 : R < w1.heap.size := Nat.lt_of_lt_of_le lR (Nat.le_trans (by simp) b1.size)
  have lw1 : w.heap.size ≤ w1.heap.size := Nat.le_trans (by simp) b1.size
  have XR := hide ((BkA.new (w := w) (t := 29) (u := #[.int .i64 0, .int .i64 0, .bool false, .int .i64 0, .int .i64 0, .string ⟨#[]⟩, .slice none 0 0, .int .i64 0, .bool false, .int .i64 0, .int .i64 0, .string ⟨#[]⟩, .slice none 0 0, .bool false, .bool false, .slice none 0 0])).keep b1 (by simp) |>.over (o := .cells #[.int .i64 7, .int .i64 0, .bool false, .int .i64 0, .int .i64 0, .string ⟨#[]⟩, .slice none 0 0, .int .i64 0, .bool false, .int .i64 0, .int .i64 0, .string ⟨#[]⟩, .slice none 0 0, .bool OA, .bool false, .slice none 0 0] 29))
  have XT := hide (BkA.new (w := w1) (t := 29) (u := #[.int .i64 7, .int .i64 0, .bool false, .int .i64 0, .int .i64 0, .string ⟨#[]⟩, .slice none 0 0, .int .i64 0, .bool false, .int .i64 0, .int .i64 0, .string ⟨#[]⟩, .slice none 0 0, .bool OA, .bool false, .slice none 0 0]))
  have HB := hide (But.of (p := R) (bv (bv (vbelow_new w _) b1) (vbelow_new w1 (.cells #[.int .i64 7, .int .i64 0, .bool false, .int .i64 0, .int .i64 0, .string ⟨#[]⟩, .slice none 0 0, .int .i64 0, .bool false, .int .i64 0, .int .i64 0, .string ⟨#[]⟩, .slice none 0 0, .bool OA, .bool false, .slice none 0 0] 29))))
  have HW1 := hide ((unhide HW).keep (bv (bv (vbelow_new w _) b1) (vbelow_new w1 (.cells #[.int .i64 7, .int .i64 0, .bool false, .int .i64 0, .int .i64 0, .string ⟨#[]⟩, .slice none 0 0, .int .i64 0, .bool false, .int .i64 0, .int .i64 0, .string ⟨#[]⟩, .slice none 0 0, .bool OA, .bool false, .slice none 0 0] 29))) lR)
  have HT1 := hide ((unhide HT).keep (bv (bv (vbelow_new w _) b1) (vbelow_new w1 (.cells #[.int .i64 7, .int .i64 0, .bool false, .int .i64 0, .int .i64 0, .string ⟨#[]⟩, .slice none 0 0, .int .i64 0, .bool false, .int .i64 0, .int .i64 0, .string ⟨#[]⟩, .slice none 0 0, .bool OA, .bool false, .slice none 0 0] 29))) (unhide HT).low)
  have ne4 : w1.heap.size ≠ w.heap.size := by have := b1.size; simp at this; omega
  clear b1 C1 HW HT
  have C2 := hide (pass_any R g i e l _ (unhide HW1) hi)
  go_wp2_with fail
  refine (unhide C2).mono ?_
  rintro r w2 ⟨rfl, k2, b2⟩
  have HW2 := hide k2
  have HT2 := hide ((unhide HT1).but b2 hg)
  replace XR := hide ((unhide XR).but b2 (by omega))
  replace XT := hide ((unhide XT).but b2 (by omega))
  replace HB := hide ((unhide HB).trans b2)
  clear k2 b2 C2 HW1 HT1
  have C3 := hide (value_num R g (i + 1) e l t1 w2 (unhide HW2) (unhide HT2) hg hl (unhide HA) (unhide HK1))
  go_wp2_with fail
  refine (unhide C3).mono ?_
  rintro r w3 ⟨rfl, k3, b3⟩
  have HW3 := hide k3
  have HT3 := hide ((unhide HT2).but b3 hg)
  replace XR := hide ((unhide XR).but b3 (by omega))
  replace XT := hide ((unhide XT).but b3 (by omega))
  replace HB := hide ((unhide HB).trans b3)
  clear k3 b3 C3 HW2 HT2
  obtain ⟨x0, x1, x2, x3, x4, x5, x6, x7, x8, x9, x10, x11, x12, x13, x14, x15⟩ := (unhide XT).tell
  have fr := (unhide XT).free
  have lx := (unhide XT).low
  obtain ⟨wA, hwA⟩ : ∃ wA, wA = ((((((((((((w3).setCell ⟨w1.heap.size, 1, none⟩ (.int .i64 3))).setCell ⟨w1.heap.size, 2, none⟩ (.bool false))).setCell ⟨w1.heap.size, 3, none⟩ (.int .i64 t1.c))).setCell ⟨w1.heap.size, 4, none⟩ (.int .i64 t1.x))).setCell ⟨w1.heap.size, 5, none⟩ (.string ⟨#[]⟩))).setCell ⟨w1.heap.size, 6, none⟩ (.slice none 0 0)) := ⟨_, rfl⟩
  have BwA : But w1.heap.size w3 wA := by rw [hwA]; exact ((((((But.set).trans But.set).trans But.set).trans But.set).trans But.set).trans But.set)
  replace XT : Hid (BkA wA w1.heap.size #[.int .i64 7, .int .i64 3, .bool false, .int .i64 t1.c, .int .i64 t1.x, .string ⟨#[]⟩, .slice none 0 0, .int .i64 0, .bool false, .int .i64 0, .int .i64 0, .string ⟨#[]⟩, .slice none 0 0, .bool OA, .bool false, .slice none 0 0]) := hide (by rw [hwA]; simpa using (((((((((((((unhide XT)).set 1 (.int .i64 3) (by simp))).set 2 (.bool false) (by simp))).set 3 (.int .i64 t1.c) (by simp))).set 4 (.int .i64 t1.x) (by simp))).set 5 (.string ⟨#[]⟩) (by simp))).set 6 (.slice none 0 0) (by simp)))
  replace XR := hide ((unhide XR).but BwA (by omega))
  replace HB := hide ((unhide HB).on (BwA.below lw1 (unhide HB).size))
  have HWA := hide ((unhide HW3).but BwA (by omega))
  have HTA := hide ((unhide HT3).but BwA (by omega))
  have C4 := hide (need_yes R g (i + 2) e l ⟨#[46, 46]⟩ wA (unhide HWA) (unhide HTA) hl (unhide HD))
  rw [hwA] at C4
  go_wp2_with fail
  refine (unhide C4).mono ?_
  rintro r w4 ⟨rfl, k4, b4⟩
  rw [← hwA] at b4
  have HW4 := hide k4
  have HT4 := hide ((unhide HTA).but b4 hg)
  replace XR := hide ((unhide XR).but b4 (by omega))
  replace XT := hide ((unhide XT).but b4 (by omega))
  replace HB := hide ((unhide HB).trans b4)
  clear k4 b4 C4 HW3 HT3 HWA HTA BwA hwA x0 x1 x2 x3 x4 x5 x6 x7 x8 x9 x10 x11 x12 x13 x14 x15 fr lx
  have C5 := hide (value_num R g (i + 3) e l t2 w4 (unhide HW4) (unhide HT4) hg hl (unhide HA2) (unhide HK2))
  go_wp2_with fail
  refine (unhide C5).mono ?_
  rintro r w5 ⟨rfl, k5, b5⟩
  have HW5 := hide k5
  have HT5 := hide ((unhide HT4).but b5 hg)
  replace XR := hide ((unhide XR).but b5 (by omega))
  replace XT := hide ((unhide XT).but b5 (by omega))
  replace HB := hide ((unhide HB).trans b5)
  clear k5 b5 C5 HW4 HT4
  obtain ⟨x0, x1, x2, x3, x4, x5, x6, x7, x8, x9, x10, x11, x12, x13, x14, x15⟩ := (unhide XT).tell
  have fr := (unhide XT).free
  have lx := (unhide XT).low
  obtain ⟨wC, hwC⟩ : ∃ wC, wC = ((((((((((((w5).setCell ⟨w1.heap.size, 7, none⟩ (.int .i64 3))).setCell ⟨w1.heap.size, 8, none⟩ (.bool false))).setCell ⟨w1.heap.size, 9, none⟩ (.int .i64 t2.c))).setCell ⟨w1.heap.size, 10, none⟩ (.int .i64 t2.x))).setCell ⟨w1.heap.size, 11, none⟩ (.string ⟨#[]⟩))).setCell ⟨w1.heap.size, 12, none⟩ (.slice none 0 0)) := ⟨_, rfl⟩
  have BwC : But w1.heap.size w5 wC := by rw [hwC]; exact ((((((But.set).trans But.set).trans But.set).trans But.set).trans But.set).trans But.set)
  replace XT : Hid (BkA wC w1.heap.size #[.int .i64 7, .int .i64 3, .bool false, .int .i64 t1.c, .int .i64 t1.x, .string ⟨#[]⟩, .slice none 0 0, .int .i64 3, .bool false, .int .i64 t2.c, .int .i64 t2.x, .string ⟨#[]⟩, .slice none 0 0, .bool OA, .bool false, .slice none 0 0]) := hide (by rw [hwC]; simpa using (((((((((((((unhide XT)).set 7 (.int .i64 3) (by simp))).set 8 (.bool false) (by simp))).set 9 (.int .i64 t2.c) (by simp))).set 10 (.int .i64 t2.x) (by simp))).set 11 (.string ⟨#[]⟩) (by simp))).set 12 (.slice none 0 0) (by simp)))
  replace XR := hide ((unhide XR).but BwC (by omega))
  replace HB := hide ((unhide HB).on (BwC.below lw1 (unhide HB).size))
  have HWC := hide ((unhide HW5).but BwC (by omega))
  have HTC := hide ((unhide HT5).but BwC (by omega))
  have C6 := hide (fun (P : Nat) (hP : wC.heap.size = P) => take_lit R g (i + 4) e l ⟨#[41]⟩ P wC hP (unhide HWC) (unhide HTC) hl)
  rw [unhide HC] at C6
  have hsz : wC.heap.size = w5.heap.size := by rw [hwC]; simp
  have C7 := hide (unhide C6 _ hsz)
  rw [hwC] at C7
  clear C6
  go_wp2_with fail
  refine (unhide C7).mono ?_
  rintro r w6 ⟨rfl, k6, b6⟩
  rw [← hwC] at b6
  have HW6 := hide k6
  replace XR := hide ((unhide XR).but b6 (by omega))
  replace XT := hide ((unhide XT).but b6 (by omega))
  replace HB := hide ((unhide HB).trans b6)
  clear k6 b6 C7 HW5 HT5 HWC HTC BwC hwC x0 x1 x2 x3 x4 x5 x6 x7 x8 x9 x10 x11 x12 x13 x14 x15 fr lx hsz
  obtain ⟨x0, x1, x2, x3, x4, x5, x6, x7, x8, x9, x10, x11, x12, x13, x14, x15⟩ := (unhide XT).tell
  have fr := (unhide XT).free
  have lx := (unhide XT).low
  obtain ⟨y0, y1, y2, y3, y4, y5, y6, y7, y8, y9, y10, y11, y12, y13, y14, y15⟩ := (unhide XR).tell
  have fy := (unhide XR).free
  have ly := (unhide XR).low
  have ne5 : ¬ w.heap.size = w1.heap.size := by omega
  have lwe := (unhide HB).size
  go_wp2
  refine bodyPost_ret (v := .tuple #[.agg #[.int .i64 7, .int .i64 3, .bool false, .int .i64 t1.c, .int .i64 t1.x, .string ⟨#[]⟩, .slice none 0 0, .int .i64 3, .bool false, .int .i64 t2.c, .int .i64 t2.x, .string ⟨#[]⟩, .slice none 0 0, .bool OA, .bool true, .slice none 0 0], .nilIface]) (by simp [results, Tryz.results94, go_sem, y0, y1, y2, y3, y4, y5, y6, y7, y8, y9, y10, y11, y12, y13, y14, y15]) rfl ⟨rfl, ?_, ?_⟩
  · exact ((unhide HW6).but (But.set (p := w1.heap.size)) (by omega)).but (p := w.heap.size) ((((((((((((((((But.set).trans But.set).trans But.set).trans But.set).trans But.set).trans But.set).trans But.set).trans But.set).trans But.set).trans But.set).trans But.set).trans But.set).trans But.set).trans But.set).trans But.set).trans But.set) (by omega)
  · exact ((unhide HB).on ((But.set (p := w1.heap.size)).below lw1 lwe)).on ((show But w.heap.size _ _ from ((((((((((((((((But.set).trans But.set).trans But.set).trans But.set).trans But.set).trans But.set).trans But.set).trans But.set).trans But.set).trans But.set).trans But.set).trans But.set).trans But.set).trans But.set).trans But.set).trans But.set)).below (Nat.le_refl _) (by simpa using lwe))
end Go.Proofs.YtcidbhegnnedoaaGreatDoor
