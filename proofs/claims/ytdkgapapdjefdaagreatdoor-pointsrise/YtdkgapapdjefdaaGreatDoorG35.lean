/- Sums and halves of numbers that have few digits are exact; number, middle. -/
import Derived.Test.YtdkgapapdjefdaaGreatDoorG34
import Derived.Test.YtdkgapapdjefdaaGreatDoorG14
import Derived.Test.YtdkgapapdjefdaaGreatDoorG16
import Derived.BigRegion
import Derived.Deep.CutRange
import Derived.Deep.RegionLaw
import Derived.Maps.AppendAt
namespace Go.Proofs.YtdkgapapdjefdaaGreatDoor
open Go.RowKit Go.Sort

theorem told_nought (y : Int) : ntold 0 y false = .returned (.tuple #[.agg #[.int .i64 0, .int .i64 0], .int .i64 0]) := by
  have e : Dm.nearZ 0 y false = 0 := by
    unfold Dm.nearZ
    rw [show Int.natAbs 0 = 0 by rfl, Dm.nQ_zero]
    rfl
  unfold ntold
  rw [e]
  simp [Dm.fC, Dm.fE, Dm.fR]
theorem told_is {c x S y : Int} {j : Nat} (h : Dm.wrongN c x = 0) (hj : j ≤ 100) (hS : S = Dm.tens c j) (hy : y = x - j) : ntold S y false = .returned (.tuple #[.agg #[.int .i64 c, .int .i64 x], .int .i64 0]) := by
  obtain ⟨a, b, d⟩ := Dm.exact_told h hj hS
  unfold ntold
  rw [hy, a, b, d]

theorem pow_le_of {a b : Nat} (h : (10 : Nat) ^ a ≤ 10 ^ b) : a ≤ b := (Nat.pow_le_pow_iff_right (by decide)).1 h
theorem tens_natAbs (c : Int) (k : Nat) : (Dm.tens c k).natAbs = c.natAbs * 10 ^ k := by
  rw [Dm.tens_eq, Int.natAbs_mul, Int.natAbs_pow]
  rfl

/-- a whole number of few digits at a place is ntold as it is -/
theorem exactT (T m : Int) (j0 : Nat) (hj : j0 ≤ 60) (hT : T.natAbs < 10 ^ 18) (hm : -40 ≤ m) (hV : (Dm.tens T (m + 40).toNat).natAbs ≤ 10 ^ 60) :
    ∃ r : Int × Int, Dm.wrongN r.1 r.2 = 0 ∧ vR r = Dm.tens T (m + 40).toNat ∧ (m ≤ r.2 ∨ r = (0, 0)) ∧ ntold (Dm.tens T j0) (m - j0) false = .returned (.tuple #[.agg #[.int .i64 r.1, .int .i64 r.2], .int .i64 0]) := by
  by_cases h0 : T = 0
  · subst h0
    refine ⟨(0, 0), by decide, by simp [vR, Dm.V, Dm.tens_zero], .inr rfl, ?_⟩
    rw [Dm.tens_zero]
    exact told_nought _
  · obtain ⟨e1, e2⟩ := Dm.tz_of h0 (by have : (10 : Nat) ^ 18 = 1000000000000000000 := by decide
                                       omega)
    have hc0 : Dm.tc T ≠ 0 := fun q => e2 (by rw [q]; decide)
    have hn := tens_natAbs (Dm.tc T) (Dm.tz T)
    rw [← e1] at hn
    have h1 : 1 ≤ (Dm.tc T).natAbs := by omega
    have hp := Nat.pow_pos (n := Dm.tz T) (show 0 < 10 by decide)
    have hle : (Dm.tc T).natAbs ≤ T.natAbs := by rw [hn]; exact Nat.le_mul_of_pos_right _ hp
    have hk : Dm.tz T ≤ 18 := pow_le_of (Nat.le_trans (Nat.le_trans (Nat.le_mul_of_pos_left (10 ^ Dm.tz T) h1) (Nat.le_of_eq hn.symm)) (Nat.le_of_lt hT))
    have hx : (m + Dm.tz T + 40).toNat = Dm.tz T + (m + 40).toNat := by omega
    have hV2 : Dm.tens (Dm.tc T) (m + Dm.tz T + 40).toNat = Dm.tens T (m + 40).toNat := by rw [hx, ← Dm.tens_add, ← e1]
    have hx2 : (m + Dm.tz T + 40).toNat ≤ 60 := by
      apply pow_le_of
      rw [← hV2, tens_natAbs] at hV
      exact Nat.le_trans (Nat.le_mul_of_pos_left _ h1) hV
    have hw : Dm.wrongN (Dm.tc T) (m + Dm.tz T) = 0 := by
      have : (10 : Nat) ^ 18 = 1000000000000000000 := by decide
      unfold Dm.wrongN
      rw [if_neg (by omega), if_neg (fun q => e2 q.1)]
    refine ⟨(Dm.tc T, m + Dm.tz T), hw, hV2, .inl (by simp; omega), ?_⟩
    refine told_is hw (j := Dm.tz T + j0) (by omega) ?_ (by omega)
    rw [← Dm.tens_add, ← e1]

/-- a number that may stand in a test, or a sum of two such -/
structure Few (c x : Int) : Prop where
  ok : Dm.wrongN c x = 0
  lo : -6 ≤ x
  le : (Dm.V c x).natAbs ≤ 10 ^ 50

theorem tens_plus (a b : Int) (k : Nat) : Dm.tens (a + b) k = Dm.tens a k + Dm.tens b k := by
  rw [Dm.tens_eq, Dm.tens_eq, Dm.tens_eq, Int.add_mul]
theorem addS_V {c1 x1 c2 x2 : Int} (h1 : -40 ≤ x1) (h2 : -40 ≤ x2) : Dm.tens (Dm.addS c1 x1 c2 x2) (min x1 x2 + 40).toNat = Dm.V c1 x1 + Dm.V c2 x2 := by
  unfold Dm.addS Dm.V
  rw [tens_plus, Dm.tens_add, Dm.tens_add]
  congr 2 <;> omega
theorem few_digits {T : Int} {k : Nat} (hk : 33 ≤ k) (h : (Dm.tens T k).natAbs ≤ 2 * 10 ^ 50) : T.natAbs < 10 ^ 18 := by
  rw [tens_natAbs] at h
  have hp : (10 : Nat) ^ 33 ≤ 10 ^ k := Nat.pow_le_pow_right (by decide) hk
  have h3 : T.natAbs * 10 ^ 33 ≤ 2 * 10 ^ 50 := Nat.le_trans (Nat.mul_le_mul_left _ hp) h
  have e : (2 : Nat) * 10 ^ 50 = (2 * 10 ^ 17) * 10 ^ 33 := by decide
  rw [e] at h3
  have h4 := Nat.le_of_mul_le_mul_right h3 (by decide)
  have e2 : (2 : Nat) * 10 ^ 17 < 10 ^ 18 := by decide
  omega
theorem sum_is {c1 x1 c2 x2 : Int} (h1 : Few c1 x1) (h2 : Few c2 x2) : ∃ r : Int × Int, Dm.wrongN r.1 r.2 = 0 ∧ vR r = Dm.V c1 x1 + Dm.V c2 x2 ∧ -6 ≤ r.2 ∧ ntold (Dm.addS c1 x1 c2 x2) (min x1 x2) false = .returned (.tuple #[.agg #[.int .i64 r.1, .int .i64 r.2], .int .i64 0]) := by
  have a1 := h1.lo
  have a2 := h2.lo
  have e := addS_V (c1 := c1) (c2 := c2) (show -40 ≤ x1 by omega) (show -40 ≤ x2 by omega)
  have hb : (Dm.V c1 x1 + Dm.V c2 x2).natAbs ≤ 2 * 10 ^ 50 := by
    have := h1.le
    have := h2.le
    omega
  have hT := few_digits (T := Dm.addS c1 x1 c2 x2) (k := (min x1 x2 + 40).toNat) (by omega) (by rw [e]; exact hb)
  obtain ⟨r, r1, r2, r3, r4⟩ := exactT (Dm.addS c1 x1 c2 x2) (min x1 x2) 0 (by omega) hT (by omega) (by
    rw [e]
    have : (2 : Nat) * 10 ^ 50 ≤ 10 ^ 60 := by decide
    omega)
  refine ⟨r, r1, r2.trans e, ?_, ?_⟩
  · rcases r3 with q | q
    · omega
    · rw [q]; decide
  · simpa [Dm.tens] using r4

/-- half of a number of few digits -/
theorem half_is {c x : Int} (lo : -6 ≤ x) (le : (Dm.V c x).natAbs ≤ 2 * 10 ^ 50) (r : Nat) (hr : r = c.natAbs * 10 ^ 40 % (2 : Int).natAbs) :
    ∃ q : Int × Int, Dm.wrongN q.1 q.2 = 0 ∧ 2 * vR q = Dm.V c x ∧ toldB (!(decide (c < 0) == decide ((2 : Int) < 0))) (c.natAbs * 10 ^ 40 / (2 : Int).natAbs) (x - 0 - 40) ((r : Int) != 0) = .returned (.tuple #[.agg #[.int .i64 q.1, .int .i64 q.2], .int .i64 0]) := by
  have e40 : (10 : Nat) ^ 40 = 2 * (5 * 10 ^ 39) := by decide
  have hr0 : r = 0 := by
    rw [hr, show (2 : Int).natAbs = 2 by rfl, e40, Nat.mul_left_comm]
    exact Nat.mul_mod_right _ _
  have hN : c.natAbs * 10 ^ 40 / (2 : Int).natAbs = c.natAbs * (5 * 10 ^ 39) := by
    rw [show (2 : Int).natAbs = 2 by rfl, e40, Nat.mul_left_comm]
    exact Nat.mul_div_cancel_left _ (by decide)
  have hV : 2 * Dm.tens (5 * c) (x - 1 + 40).toNat = Dm.V c x := by
    unfold Dm.V
    have : (x + 40).toNat = (x - 1 + 40).toNat + 1 := by omega
    rw [this, Dm.tens_eq, Dm.tens_eq, Int.pow_succ]
    generalize (10 : Int) ^ (x - 1 + 40).toNat = P
    grind
  have hle : (Dm.tens (5 * c) (x - 1 + 40).toNat).natAbs ≤ 2 * 10 ^ 50 := by omega
  have hT := few_digits (T := 5 * c) (k := (x - 1 + 40).toNat) (by omega) hle
  obtain ⟨q, q1, q2, q3, q4⟩ := exactT (5 * c) (x - 1) 39 (by omega) hT (by omega) (by
    have : (2 : Nat) * 10 ^ 50 ≤ 10 ^ 60 := by decide
    omega)
  refine ⟨q, q1, by rw [q2]; exact hV, ?_⟩
  subst hr0
  rw [hN, ← q4]
  have hs : Dm.sg (!(decide (c < 0) == decide ((2 : Int) < 0))) (c.natAbs * (5 * 10 ^ 39)) = Dm.tens (5 * c) 39 := by
    rw [Dm.tens_eq]
    unfold Dm.sg
    by_cases hc : c < 0
    · have : (c.natAbs : Int) = -c := by omega
      simp [hc, this]
      grind
    · have : (c.natAbs : Int) = c := by omega
      simp [hc, this]
      grind
  obtain ⟨s1, s2⟩ := Dm.sg_near hs (x - 0 - 40)
  unfold toldB ntold
  rw [show (((0 : Nat) : Int) != 0) = false by rfl, s1, s2, show x - 1 - ((39 : Nat) : Int) = x - 0 - 40 by omega]
end Go.Proofs.YtdkgapapdjefdaaGreatDoor

/- number, text, middle. -/
namespace Go.Proofs.YtdkgapapdjefdaaGreatDoor
open Go.RowKit Go.Sort

/-- a number as a value, a text as a value -/
def valN (p : Int × Int) : List Value := [.int .i64 3, .bool false, .int .i64 p.1, .int .i64 p.2, .string ⟨#[]⟩, .slice none 0 0]
def valT (s : ByteArray) : List Value := [.int .i64 4, .bool false, .int .i64 0, .int .i64 0, .string s, .slice none 0 0]

set_option maxHeartbeats 1000000 in
theorem pnumber_any (c x : Int) (w : World) :
    Calls Tryz.prog 31 #[.agg #[.int .i64 c, .int .i64 x]] w fun e w' => e = .returned (.agg #[.int .i64 3, .bool false, .int .i64 c, .int .i64 x, .string ⟨#[]⟩, .slice none 0 0]) ∧ Below w.heap.size w w' := by
  go_enter Tryz.func31, Tryz.ntmps31
  go_wp2
  refine bodyPost_ret (v := .agg #[.int .i64 3, .bool false, .int .i64 c, .int .i64 x, .string ⟨#[]⟩, .slice none 0 0]) (by simp [results, Tryz.results31, go_sem]) rfl ⟨rfl, ?_⟩
  exact ((Below.refl _ w).alloc (Nat.le_refl _) _).alloc (by simp) _

set_option maxHeartbeats 1000000 in
theorem ptext_any (s : ByteArray) (w : World) :
    Calls Tryz.prog 46 #[.string s] w fun e w' => e = .returned (.agg #[.int .i64 4, .bool false, .int .i64 0, .int .i64 0, .string s, .slice none 0 0]) ∧ Below w.heap.size w w' := by
  go_enter Tryz.func46, Tryz.ntmps46
  go_wp2
  refine bodyPost_ret (v := .agg #[.int .i64 4, .bool false, .int .i64 0, .int .i64 0, .string s, .slice none 0 0]) (by simp [results, Tryz.results46, go_sem]) rfl ⟨rfl, ?_⟩
  exact (Below.refl _ w).alloc (Nat.le_refl _) _

set_option maxHeartbeats 2000000 in
theorem middle_any (c1 x1 c2 x2 : Int) (w : World) (h1 : Few c1 x1) (h2 : Few c2 x2) :
    Calls Tryz.prog 34 #[.agg #[.int .i64 c1, .int .i64 x1], .agg #[.int .i64 c2, .int .i64 x2]] w fun e w' => ∃ q : Int × Int, Dm.wrongN q.1 q.2 = 0 ∧ 2 * vR q = Dm.V c1 x1 + Dm.V c2 x2 ∧ e = .returned (.agg #[.int .i64 q.1, .int .i64 q.2]) ∧ Below w.heap.size w w' := by
  obtain ⟨⟨rc, rx⟩, r1, r2, r3, r4⟩ := sum_is h1 h2
  have hb : (Dm.V rc rx).natAbs ≤ 2 * 10 ^ 50 := by
    have := h1.le
    have := h2.le
    have e : Dm.V rc rx = Dm.V c1 x1 + Dm.V c2 x2 := r2
    omega
  have AD := hide (fun wx => add_ok c1 x1 c2 x2 wx h1.ok h2.ok)
  rw [r4] at AD
  have DV := hide (fun wx => div_ok rc rx 2 0 wx r1 (by decide) (by decide))
  have HF := hide (fun r hr => half_is r3 hb r hr)
  have R2 := hide r2
  clear r4 r1 r2 r3 hb h1 h2
  go_enter Tryz.func34, Tryz.ntmps34
  go_wp2_with fail
  refine (unhide AD _).mono ?_
  rintro e w1 ⟨rfl, hb1⟩
  obtain ⟨hc, hf⟩ := bcell hb1
  have hz : w.heap.size + 3 ≤ w1.heap.size := by have := hb1.size; simp at this; omega
  have HB1 := hide (((((Below.refl _ w).alloc (Nat.le_refl _) _).alloc (by simp) _).alloc (by simp; omega) _).trans (hb1.mono (by simp; omega)))
  clear hb1 AD
  go_wp2_with fail
  refine (unhide DV _).mono ?_
  rintro e w2 ⟨r, he, hr, hb2⟩
  obtain ⟨q, q1, q2, q3⟩ := unhide HF r hr
  rw [q3] at he
  subst he
  have Q2 := hide (q2.trans (unhide R2))
  have Q1 := hide q1
  have hz2 : w1.heap.size + 1 ≤ w2.heap.size := by have := hb2.size; simp at this; omega
  have cc : ∀ b o, b < w.heap.size + 3 → w2.cell? ⟨b, o, none⟩ = w1.cell? ⟨b, o, none⟩ := fun b o h => (hb2.cell (p := ⟨b, o, none⟩) (by simp; omega)).trans ((vbelow_new w1 _).cell (p := ⟨b, o, none⟩) (show b < w1.heap.size by omega))
  have cf : ∀ b o, b < w.heap.size + 3 → w2.frozen? ⟨b, o, none⟩ = w1.frozen? ⟨b, o, none⟩ := fun b o h => (hb2.frozen (p := ⟨b, o, none⟩) (by simp; omega)).trans ((vbelow_new w1 _).frozen (p := ⟨b, o, none⟩) (show b < w1.heap.size by omega))
  have HB2 := hide (((unhide HB1).trans ((vbelow_new w1 _).mono (by omega))).trans (hb2.mono (by simp; omega)))
  have z0 : w2.cell? ⟨w.heap.size + 1 + 1, 0, none⟩ = some (.int .i64 0) := by rw [cc _ _ (by omega), hc _ _ (by simp)]; simp [go_sem]
  have z1 : w2.cell? ⟨w.heap.size + 1 + 1, 1, none⟩ = some (.int .i64 0) := by rw [cc _ _ (by omega), hc _ _ (by simp)]; simp [go_sem]
  have f0 : w2.frozen? ⟨w.heap.size + 1 + 1, 0, none⟩ = false := by rw [cf _ _ (by omega), hf _ _ (by simp)]; simp [go_sem]
  have f1 : w2.frozen? ⟨w.heap.size + 1 + 1, 1, none⟩ = false := by rw [cf _ _ (by omega), hf _ _ (by simp)]; simp [go_sem]
  have hz3 : w.heap.size + 1 + 1 < w2.heap.size := by omega
  clear hb2 DV HF q1 q2 q3 hr R2 HB1 cc cf hc hf hz hz2
  obtain ⟨qc, qx⟩ := q
  go_wp2
  obtain ⟨X, hX⟩ : ∃ X, (w2.setCell ⟨w.heap.size + 1 + 1, 0, none⟩ (.int .i64 qc)).setCell ⟨w.heap.size + 1 + 1, 1, none⟩ (.int .i64 qx) = X := ⟨_, rfl⟩
  have h3 : w.heap.size ≤ w.heap.size + 1 + 1 := by omega
  have x0 : X.cell? ⟨w.heap.size + 1 + 1, 0, none⟩ = some (.int .i64 qc) := by rw [← hX]; simp [go_sem, z0]
  have x1 : X.cell? ⟨w.heap.size + 1 + 1, 1, none⟩ = some (.int .i64 qx) := by rw [← hX]; simp [go_sem, z1]
  have hbX : Below w.heap.size w X := by rw [← hX]; exact ((unhide HB2).setCell (p := ⟨w.heap.size + 1 + 1, 0, none⟩) h3 _).setCell (p := ⟨w.heap.size + 1 + 1, 1, none⟩) h3 _
  have lX : w.heap.size + 1 + 1 < X.heap.size := lt_of_cell x0
  rw [hX]
  clear hX
  refine bodyPost_ret (v := .agg #[.int .i64 qc, .int .i64 qx]) (by simp [results, Tryz.results34, go_sem, x0, x1, lX]) rfl ⟨(qc, qx), unhide Q1, unhide Q2, rfl, ?_⟩
  exact hbX.alloc hbX.size _
end Go.Proofs.YtdkgapapdjefdaaGreatDoor

/- numberPoints. -/
namespace Go.Proofs.YtdkgapapdjefdaaGreatDoor
open Go.RowKit Go.Sort

theorem info_V : (Tryz.prog.info? 27).map (fun i => (i.zero, i.size, i.bytes)) = some (some (.agg #[.int .i64 0, .bool false, .int .i64 0, .int .i64 0, .string ⟨#[]⟩, .slice none 0 0]), 6, 72) := by kernel_rfl

/-- one -/
def one40 : Int := 10 ^ 40
theorem few_one : Few 1 0 := ⟨by decide, by decide, by decide⟩
theorem V_one : Dm.V 1 0 = one40 := by decide
theorem V_mone : Dm.V (-1) 0 = -one40 := by decide
theorem few_mone : Few (-1) 0 := ⟨by decide, by decide, by decide⟩

/-- a row of numbers that can be read -/
structure RowD (w : World) (g : Nat) (es : List (Int × Int)) : Prop where
  low : g < w.heap.size
  at0 : ∀ i p, es[i]? = some p → w.cell? ⟨g, i * 2, none⟩ = some (.int .i64 p.1)
  at1 : ∀ i p, es[i]? = some p → w.cell? ⟨g, i * 2 + 1, none⟩ = some (.int .i64 p.2)
theorem RowD.keep {w w' : World} {g : Nat} {es : List (Int × Int)} (h : RowD w g es) (hb : Below w.heap.size w w') : RowD w' g es :=
  ⟨Nat.lt_of_lt_of_le h.low hb.size, fun i p hp => (hb.cell (p := ⟨g, i * 2, none⟩) h.low).trans (h.at0 i p hp), fun i p hp => (hb.cell (p := ⟨g, i * 2 + 1, none⟩) h.low).trans (h.at1 i p hp)⟩
theorem flatD_at : ∀ (l : List (Int × Int)) (i : Nat) (p : Int × Int), l[i]? = some p → (flatD l)[i * 2]? = some (.int .i64 p.1) ∧ (flatD l)[i * 2 + 1]? = some (.int .i64 p.2)
  | [], i, p, h => by simp at h
  | a :: l, 0, p, h => by
    simp at h
    subst h
    exact ⟨rfl, rfl⟩
  | a :: l, i + 1, p, h => by
    have := flatD_at l i p (by simpa using h)
    have e : flatD (a :: l) = cellsD a ++ flatD l := rfl
    rw [e, show (i + 1) * 2 = i * 2 + 2 by omega, List.getElem?_append_right (by simp [cellsD]), List.getElem?_append_right (by simp [cellsD])]
    simpa [cellsD] using this
theorem rowD_of {w : World} {base : Nat} {u : Value} {es : List (Int × Int)} (h : w.ownsRow base 24 2 u es.length (flatD es)) (hne : es ≠ []) : ∃ g cap, u = .slice (some ⟨g, 0, none⟩) es.length cap ∧ base ≤ g ∧ RowD w g es := by
  rcases h.2 with ⟨_, hz⟩ | ⟨g, cap, cur, rfl, hbase, hgb, r1, r2, r3, r4⟩
  · exact absurd (List.eq_nil_of_length_eq_zero hz) hne
  · refine ⟨g, cap, rfl, hbase, (Array.getElem?_eq_some_iff.1 hgb).1, ?_, ?_⟩
    · intro i p hp
      have hi : i < es.length := (List.getElem?_eq_some_iff.1 hp).1
      have := (flatD_at es i p hp).1
      rw [← r4, List.getElem?_take_of_lt (by omega)] at this
      simp only [World.cell?, hgb]
      simpa using this
    · intro i p hp
      have hi : i < es.length := (List.getElem?_eq_some_iff.1 hp).1
      have := (flatD_at es i p hp).2
      rw [← r4, List.getElem?_take_of_lt (by omega)] at this
      simp only [World.cell?, hgb]
      simpa using this

/-- a number in a block of its own -/
structure BxD (w : World) (p : Nat) (q : Int × Int) : Prop where
  c0 : w.cell? ⟨p, 0, none⟩ = some (.int .i64 q.1)
  c1 : w.cell? ⟨p, 1, none⟩ = some (.int .i64 q.2)
theorem BxD.keep {w w' : World} {p : Nat} {q : Int × Int} (h : BxD w p q) (hb : Below w.heap.size w w') : BxD w' p q :=
  ⟨(hb.cell (p := ⟨p, 0, none⟩) (lt_of_cell h.c0)).trans h.c0, (hb.cell (p := ⟨p, 1, none⟩) (lt_of_cell h.c0)).trans h.c1⟩

theorem relA {W w1 : World} {q : Int × Int} (hb : Below W.drew.heap.size W.drew w1) :
    ∃ p, Value.pointer (some ⟨w1.heap.size, 0, none⟩) = .pointer (some ⟨p, 0, none⟩) ∧ Hid (BxD (w1.alloc (.cells #[.int .i64 q.1, .int .i64 q.2] 24)) p q) ∧ Hid (Below W.heap.size W (w1.alloc (.cells #[.int .i64 q.1, .int .i64 q.2] 24))) := by
  have h1 : Below W.heap.size W w1 := (Below.refl _ W).drew.trans hb
  exact ⟨_, rfl, hide ⟨by simp [go_sem], by simp [go_sem]⟩, hide (h1.alloc h1.size _)⟩
theorem relB {W w1 : World} {q : Int × Int} {n : Nat} (hn : W.heap.size = n) (hb : Below (W.alloc (.cells #[.int .i64 0, .int .i64 0] 24)).drew.heap.size (W.alloc (.cells #[.int .i64 0, .int .i64 0] 24)).drew w1) :
    ∃ p, Value.pointer (some ⟨n, 0, none⟩) = .pointer (some ⟨p, 0, none⟩) ∧ Hid (BxD ((w1.setCell ⟨n, 0, none⟩ (.int .i64 q.1)).setCell ⟨n, 1, none⟩ (.int .i64 q.2)) p q) ∧ Hid (Below W.heap.size W ((w1.setCell ⟨n, 0, none⟩ (.int .i64 q.1)).setCell ⟨n, 1, none⟩ (.int .i64 q.2))) := by
  subst hn
  have h1 : Below W.heap.size W w1 := (((Below.refl _ W).alloc (Nat.le_refl _) _).drew).trans (hb.mono (by simp))
  have z0 : w1.cell? ⟨W.heap.size, 0, none⟩ = some (.int .i64 0) := (hb.cell (p := ⟨W.heap.size, 0, none⟩) (by simp)).trans (by simp [go_sem])
  have z1 : w1.cell? ⟨W.heap.size, 1, none⟩ = some (.int .i64 0) := (hb.cell (p := ⟨W.heap.size, 1, none⟩) (by simp)).trans (by simp [go_sem])
  refine ⟨_, rfl, hide ⟨by simp [go_sem, z0], by simp [go_sem, z1]⟩, hide ?_⟩
  exact (h1.setCell (p := ⟨W.heap.size, 0, none⟩) (Nat.le_refl _) _).setCell (p := ⟨W.heap.size, 1, none⟩) (Nat.le_refl _) _
end Go.Proofs.YtdkgapapdjefdaaGreatDoor

/- Plain words: the points of numbers, as they are put together. -/
namespace Go.Proofs.YtdkgapapdjefdaaGreatDoor
open Go.RowKit Go.Sort

/-- the points so far: those of m edges -/
structure AccP (es : List (Int × Int)) (q0 : Int × Int) (m : Nat) (acc : List (Int × Int)) : Prop where
  len : acc.length = if m = 0 then 1 else 2 * m
  hd : acc[0]? = some q0
  ok : ∀ p ∈ acc, Dm.wrongN p.1 p.2 = 0
  edge : ∀ i, i < m → acc[2 * i + 1]? = es[i]?
  mid : ∀ i a b, i + 1 < m → es[i]? = some a → es[i + 1]? = some b → ∃ q, acc[2 * i + 2]? = some q ∧ 2 * vR q = vR a + vR b

/-- the points of these edges -/
structure IsPts (es ps : List (Int × Int)) : Prop where
  len : ps.length = 2 * es.length + 1
  ok : ∀ p ∈ ps, Dm.wrongN p.1 p.2 = 0
  edge : ∀ i, i < es.length → ps[2 * i + 1]? = es[i]?
  first : ∀ a, es[0]? = some a → ∃ q, ps[0]? = some q ∧ vR q = vR a - one40
  last : ∀ a, es[es.length - 1]? = some a → ∃ q, ps[2 * es.length]? = some q ∧ vR q = vR a + one40
  mid : ∀ i a b, es[i]? = some a → es[i + 1]? = some b → ∃ q, ps[2 * i + 2]? = some q ∧ 2 * vR q = vR a + vR b
  none : es = [] → ps = [(0, 0)]

theorem AccP.start (es : List (Int × Int)) {q0 : Int × Int} (h : Dm.wrongN q0.1 q0.2 = 0) : AccP es q0 0 [q0] :=
  ⟨rfl, rfl, fun p hp => by rw [List.mem_singleton.1 hp]; exact h, fun i hi => absurd hi (by omega), fun i a b hi => absurd hi (by omega)⟩
theorem AccP.one {es : List (Int × Int)} {q0 e : Int × Int} {acc : List (Int × Int)} (h : AccP es q0 0 acc) (he : es[0]? = some e) (hk : Dm.wrongN e.1 e.2 = 0) : AccP es q0 1 (acc ++ [e]) := by
  have hl : acc.length = 1 := h.len
  refine ⟨by simp [hl], ?_, ?_, ?_, fun i a b hi => absurd hi (by omega)⟩
  · rw [List.getElem?_append_left (by omega)]; exact h.hd
  · intro p hp
    rcases List.mem_append.1 hp with q | q
    · exact h.ok p q
    · rw [List.mem_singleton.1 q]; exact hk
  · intro i hi
    obtain rfl : i = 0 := by omega
    rw [List.getElem?_append_right (by omega), hl, he]
    rfl
theorem AccP.more {es : List (Int × Int)} {q0 q a e : Int × Int} {m : Nat} {acc : List (Int × Int)} (h : AccP es q0 (m + 1) acc) (ha : es[m]? = some a) (he : es[m + 1]? = some e) (hk : Dm.wrongN e.1 e.2 = 0) (hq : Dm.wrongN q.1 q.2 = 0) (hv : 2 * vR q = vR a + vR e) : AccP es q0 (m + 1 + 1) (acc ++ [q] ++ [e]) := by
  have hl : acc.length = 2 * (m + 1) := by rw [h.len, if_neg (by omega)]
  refine ⟨by simp [hl]; omega, ?_, ?_, ?_, ?_⟩
  · rw [List.append_assoc, List.getElem?_append_left (by omega)]; exact h.hd
  · intro p hp
    rcases List.mem_append.1 hp with x | x
    · rcases List.mem_append.1 x with y | y
      · exact h.ok p y
      · rw [List.mem_singleton.1 y]; exact hq
    · rw [List.mem_singleton.1 x]; exact hk
  · intro i hi
    by_cases hi2 : i < m + 1
    · rw [List.append_assoc, List.getElem?_append_left (by omega)]; exact h.edge i hi2
    · obtain rfl : i = m + 1 := by omega
      rw [List.getElem?_append_right (by simp; omega), he]
      simp [hl]
  · intro i a' b' hi h1 h2
    by_cases hi2 : i + 1 < m + 1
    · obtain ⟨r, r1, r2⟩ := h.mid i a' b' hi2 h1 h2
      exact ⟨r, by rw [List.append_assoc, List.getElem?_append_left (by omega)]; exact r1, r2⟩
    · obtain rfl : i = m := by omega
      rw [ha] at h1
      rw [he] at h2
      cases h1
      cases h2
      refine ⟨q, ?_, hv⟩
      rw [List.append_assoc, List.getElem?_append_right (by omega), hl, show 2 * i + 2 - 2 * (i + 1) = 0 by omega]
      rfl
theorem AccP.done {es : List (Int × Int)} {q0 q9 : Int × Int} {acc : List (Int × Int)} (h : AccP es q0 es.length acc) (hne : es ≠ []) (h0 : ∀ a, es[0]? = some a → vR q0 = vR a - one40) (h9 : ∀ a, es[es.length - 1]? = some a → vR q9 = vR a + one40) (hk : Dm.wrongN q9.1 q9.2 = 0) : IsPts es (acc ++ [q9]) := by
  have hp : 0 < es.length := List.length_pos_iff.2 hne
  have hl : acc.length = 2 * es.length := by rw [h.len, if_neg (by omega)]
  refine ⟨by simp [hl], ?_, ?_, ?_, ?_, ?_, fun q => absurd q hne⟩
  · intro p hp
    rcases List.mem_append.1 hp with q | q
    · exact h.ok p q
    · rw [List.mem_singleton.1 q]; exact hk
  · intro i hi
    rw [List.getElem?_append_left (by omega)]; exact h.edge i hi
  · intro a ha
    exact ⟨q0, by rw [List.getElem?_append_left (by omega)]; exact h.hd, h0 a ha⟩
  · intro a ha
    refine ⟨q9, ?_, h9 a ha⟩
    rw [List.getElem?_append_right (by omega), hl, Nat.sub_self]
    rfl
  · intro i a b h1 h2
    have hi : i + 1 < es.length := (List.getElem?_eq_some_iff.1 h2).1
    obtain ⟨r, r1, r2⟩ := h.mid i a b hi h1 h2
    exact ⟨r, by rw [List.getElem?_append_left (by omega)]; exact r1, r2⟩

/-- numbers as values, all cells in a row -/
def flatV (l : List (Int × Int)) : List Value := l.flatMap valN
theorem flatV_app (l k : List (Int × Int)) : flatV (l ++ k) = flatV l ++ flatV k := by simp [flatV]
theorem flatV_one (x : Int × Int) : flatV [x] = valN x := by simp [flatV]
theorem cell_six9 (W : World) (t : TypeId) (a b c d e f : Value) : ∀ j u, [a, b, c, d, e, f][j]? = some u → (W.alloc (.cells #[a, b, c, d, e, f] t)).cell? ((⟨W.heap.size, 0, none⟩ : Addr).add j) = some u := by
  intro j u h
  rw [show ((⟨W.heap.size, 0, none⟩ : Addr).add j) = ⟨W.heap.size, 0 + j, none⟩ by simp [Addr.add]; omega]
  have hj : j < 6 := by
    rcases Nat.lt_or_ge j 6 with q | q
    · exact q
    · rw [List.getElem?_eq_none (by simpa using q)] at h; cases h
  rcases (by omega : j = 0 ∨ j = 1 ∨ j = 2 ∨ j = 3 ∨ j = 4 ∨ j = 5) with rfl | rfl | rfl | rfl | rfl | rfl <;> (simp at h; subst h; simp [go_sem])
theorem one_valN (p : Int × Int) : ∀ u ∈ valN p, u.oneCell' = true := by
  intro u hu
  simp [valN] at hu
  rcases hu with rfl | rfl | rfl | rfl | rfl | rfl <;> rfl
theorem one_valT (p : ByteArray) : ∀ u ∈ valT p, u.oneCell' = true := by
  intro u hu
  simp [valT] at hu
  rcases hu with rfl | rfl | rfl | rfl | rfl <;> rfl
theorem own_keep9 {base : Nat} {e : TypeId} {size : Nat} {w w' : World} {v : Value} {n : Nat} {xs : List Value} (h : w.ownsRow base e size v n xs) (hb : Below w.heap.size w w') : w'.ownsRow base e size v n xs := by
  refine ⟨h.1, ?_⟩
  rcases h.2 with hn | ⟨g, cap, cur, hv, hbg, hblk, rest⟩
  · exact .inl hn
  · exact .inr ⟨g, cap, cur, hv, hbg, (hb.block g (Array.getElem?_eq_some_iff.1 hblk).1).trans hblk, rest⟩
theorem own_slice9 {base : Nat} {e : TypeId} {size : Nat} {w : World} {v : Value} {n : Nat} {xs : List Value} (h : w.ownsRow base e size v (n + 1) xs) : ∃ g cap, v = .slice (some ⟨g, 0, none⟩) (n + 1) cap := by
  rcases h.2 with ⟨_, h2⟩ | ⟨g, cap, cur, hv, _⟩
  · omega
  · exact ⟨g, cap, hv⟩
/-- what grows in a row of its own leaves all ahead -/
theorem own_grown9 {base B : Nat} {e : TypeId} {size : Nat} {w0 w w' : World} {v : Value} {n : Nat} {xs : List Value} (h : w.ownsRow base e size v n xs) (hb : Below B w0 w) (hg : w.grownBy w' v.ownBlock) (hB : B ≤ base) (hs : B ≤ w.heap.size) : Below B w0 w' :=
  hb.grown hg hs (fun k hk => Nat.le_trans hB (h.lt k hk).1)
theorem step_append9 {P : Program} {ops : Array Oper} {o : Oper} {a : Act} {w : World} {K : Act → World → Prop} {Q : Exit → Act → World → Prop} {E : Prop}
    (hg : o.guard = none) (s x : Operand) (t : TypeId) (ho : o.op = Op.call { callee := Callee.builtin Builtin.append, args := #[s, x], argTypes := #[t, t] })
    (base : Nat) (e : TypeId) (i : TypeInfo) (z : Value) (size bytes : Nat) (ht : P.underlying t = some (.slice e)) (hi : P.info? e = some i) (hz : i.zero = some z)
    (hsize : i.size = size) (hby : i.bytes = bytes) (hzs : z.cells.size = size) (hsz : 0 < size)
    (v : Value) (n : Nat) (xs : List Value) (hs : a.eval s = v) (hown : w.ownsRow base e size v n xs)
    (ad : Addr) (m c : Nat) (news : List Value) (hx : a.eval x = .slice (some ad) m c) (hl : news.length = m * size) (hnews : ∀ j u, news[j]? = some u → w.cell? (ad.add j) = some u) (h1 : ∀ u ∈ news, u.oneCell' = true)
    (h63 : n + m ≤ maxLen) (hbytes : (n + m) * bytes ≤ 140737488355328) (hbase : base ≤ w.heap.size)
    (hK : ∀ v' w', w'.ownsRow base e size v' (n + m) (xs ++ news) → w.grownBy w' v.ownBlock → (v'.ownBlock = v.ownBlock ∨ v'.ownBlock = some w.heap.size) → K (a.put o.dst v') w') :
    if Region.wanted o (yielded ops a.tmps) = true then Oper.wp P o a w K Q else E := by
  have hw : Region.wanted o (yielded ops a.tmps) = true := by simp [Region.wanted, hg]
  rw [if_pos hw]
  obtain ⟨v', w', hr, h2, h3, _, h5⟩ := run_append_own_at (P := P) w base t o.type e i z size bytes ht hi hz hsize hby hzs hsz v n xs hown ad m c news hl hnews h1 h63 hbytes hbase
  unfold Oper.wp execOp
  simp only [ho, resolve, invoke, builtin, Sem.run_bind, Sem.run_pure, Result.andThen_ok, List.map_toArray, List.map_cons, List.map_nil, hs, hx, hr]
  exact hK v' w' h2 h3 h5
theorem mid_rel {w6 wr w10 w11 w12 : World} {acc : List (Int × Int)} {sv v12 : Value} {em ej q : Int × Int} {o : Obj} (HO : wr.ownsRow w6.heap.size 27 6 sv acc.length (flatV acc)) (HB : Below w6.heap.size w6 wr) (k1 : Dm.wrongN q.1 q.2 = 0) (k2 : 2 * vR q = vR ej + vR em)
    (hb10 : Below (wr.alloc (.cells #[.int .i64 em.1, .int .i64 em.2] 24)).drew.heap.size (wr.alloc (.cells #[.int .i64 em.1, .int .i64 em.2] 24)).drew w10) (hb11 : Below w10.heap.size w10 w11)
    (hown : w12.ownsRow w6.heap.size 27 6 v12 (acc.length + 1) (flatV acc ++ valN q)) (hg : (w11.alloc o).grownBy w12 sv.ownBlock) :
    ∃ q : Int × Int, Hid (Dm.wrongN q.1 q.2 = 0 ∧ 2 * vR q = vR ej + vR em) ∧ Hid (w12.ownsRow w6.heap.size 27 6 v12 (acc ++ [q]).length (flatV (acc ++ [q]))) ∧ Hid (Below w6.heap.size w6 w12) ∧ Hid (BxD w12 wr.heap.size em) := by
  have hz := HB.size
  have ba : Below wr.heap.size wr (wr.alloc (.cells #[.int .i64 em.1, .int .i64 em.2] 24)).drew := ((Below.refl _ wr).alloc (Nat.le_refl _) _).drew
  have b10 : Below wr.heap.size wr w10 := ba.trans (hb10.mono (by simp))
  have b11 : Below wr.heap.size wr w11 := b10.trans (hb11.mono b10.size)
  have O11 := own_keep9 (own_keep9 HO ba) hb10
  have O11 := own_keep9 O11 hb11
  have hz10 : wr.heap.size + 1 ≤ w10.heap.size := by have := hb10.size; simpa using this
  have hz11 : w10.heap.size ≤ w11.heap.size := hb11.size
  have BA : BxD (wr.alloc (.cells #[.int .i64 em.1, .int .i64 em.2] 24)).drew wr.heap.size em := ⟨by simp [go_sem], by simp [go_sem]⟩
  have B11 := (BA.keep hb10).keep hb11
  have bl : w12.heap[wr.heap.size]? = w11.heap[wr.heap.size]? := (hg.block wr.heap.size (by simp; omega) (fun e => by
    have := (HO.lt _ e.symm).2
    omega)).trans (Below.heap_alloc _ _ _ (by omega))
  refine ⟨q, hide ⟨k1, k2⟩, hide (by rw [flatV_app, flatV_one]; simpa using hown), hide ?_, hide ⟨(World.cell?_of_block bl).trans B11.c0, (World.cell?_of_block bl).trans B11.c1⟩⟩
  exact own_grown9 (O11.alloc o) ((HB.trans (b11.mono hz)).alloc (by have := b11.size; omega) o) hg (Nat.le_refl _) (by have := b11.size; simp; omega)
/-- room for so many values -/
theorem make_V (n : Nat) (hn : n ≤ 3000000) (w : World) : ∃ w', (Instr.makeSlice 25 (.int .i64 0) (.int .i64 (n : Int))).run Tryz.prog w = .ok (.slice (some ⟨w.heap.size, 0, none⟩) 0 n) w' ∧ w'.ownsRow w.heap.size 27 6 (.slice (some ⟨w.heap.size, 0, none⟩) 0 n) 0 [] ∧ Below w.heap.size w w' := by
  obtain ⟨i0, hi, hz0, hz1, hz2⟩ := info_parts info_V
  obtain ⟨w', h1, h2, h3⟩ := run_make_own (P := Tryz.prog) w w.heap.size 25 27 i0 _ 6 Tryz.underlying25 hi hz0 hz1 .i64 .i64 n (by rw [hz2]; omega) (by unfold maxLen; omega) (Nat.le_refl _)
  exact ⟨w', h1, h2, (Below.refl _ w).grown h3 (Nat.le_refl _) (fun k hk => by cases hk)⟩
end Go.Proofs.YtdkgapapdjefdaaGreatDoor

/- numberPoints of no edges; haveRoom. -/
namespace Go.Proofs.YtdkgapapdjefdaaGreatDoor
open Go.RowKit Go.Sort

theorem own_new9 {w1 : World} {base : Nat} {e : TypeId} (hb : base ≤ w1.heap.size) (cs : Array Value) (k n : Nat) (hs : cs.size = n * k) (hn : n ≤ maxLen) : (w1.alloc (.cells cs e)).ownsRow base e k (.slice (some ⟨w1.heap.size, 0, none⟩) n n) n cs.toList :=
  ⟨by simpa using hs, .inr ⟨w1.heap.size, n, cs, rfl, hb, by show (w1.heap.push _)[w1.heap.size]? = _; simp, Nat.le_refl _, hn, hs, by rw [List.take_of_length_le (by simp [hs])]⟩⟩

set_option maxHeartbeats 4000000 in
theorem numPts_none (cap : Nat) (a : Option Addr) (w : World) :
    Calls Tryz.prog 14 #[.slice a 0 cap] w fun e w' => ∃ v ps, e = .returned v ∧ IsPts [] ps ∧ w'.ownsRow w.heap.size 27 6 v ps.length (flatV ps) ∧ Below w.heap.size w w' := by
  go_enter Tryz.func14, Tryz.ntmps14
  go_wp2_with fail
  refine (pnumber_any 0 0 _).mono ?_
  rintro e w1 ⟨rfl, hb⟩
  go_wp2
  go_ret
  refine ⟨_, [(0, 0)], rfl, ?_, own_new9 hb.size (valN (0, 0)).toArray 6 1 rfl (by unfold maxLen; omega), hb.alloc hb.size _⟩
  refine ⟨rfl, ?_, fun i hi => absurd hi (by simp), fun a h => by simp at h, fun a h => by simp at h, fun i a b h => by simp at h, fun _ => rfl⟩
  intro p hp
  rw [List.mem_singleton.1 hp]
  decide

/-- a row of texts that can be read -/
structure RowT (w : World) (g : Nat) (es : List ByteArray) : Prop where
  low : g < w.heap.size
  at0 : ∀ i p, es[i]? = some p → w.cell? ⟨g, i, none⟩ = some (.string p)
theorem RowT.keep {w w' : World} {g : Nat} {es : List ByteArray} (h : RowT w g es) (hb : Below w.heap.size w w') : RowT w' g es :=
  ⟨Nat.lt_of_lt_of_le h.low hb.size, fun i p hp => (hb.cell (p := ⟨g, i, none⟩) h.low).trans (h.at0 i p hp)⟩
theorem rowT_of {w : World} {base : Nat} {u : Value} {es : List ByteArray} (h : w.ownsRow base 9 1 u es.length (es.map Value.string)) (hne : es ≠ []) : ∃ g cap, u = .slice (some ⟨g, 0, none⟩) es.length cap ∧ base ≤ g ∧ RowT w g es := by
  rcases h.2 with ⟨_, hz⟩ | ⟨g, cap, cur, rfl, hbase, hgb, r1, r2, r3, r4⟩
  · exact absurd (List.eq_nil_of_length_eq_zero hz) hne
  · refine ⟨g, cap, rfl, hbase, (Array.getElem?_eq_some_iff.1 hgb).1, ?_⟩
    intro i p hp
    have hi : i < es.length := (List.getElem?_eq_some_iff.1 hp).1
    have : (es.map Value.string)[i]? = some (.string p) := by rw [List.getElem?_map, hp]; rfl
    rw [← r4, List.getElem?_take_of_lt (by omega)] at this
    simp only [World.cell?, hgb]
    simpa using this

set_option maxHeartbeats 1000000 in
theorem room1_any (s : ByteArray) (w : World) (hs : s.size ≤ 9223372036854775807) : Calls Tryz.prog 45 #[.string s] w fun e w' => e = .returned (.bool (decide (1000 ≤ s.size))) ∧ w' = w := by
  by_cases h : 1000 ≤ s.size
  · have h' : (1000 : Int) ≤ (s.size : Int) := by omega
    go_enter Tryz.func45, Tryz.ntmps45
    go_wp2
    go_ret
    exact ⟨by simp [h], rfl⟩
  · have h' : ¬ (1000 : Int) ≤ (s.size : Int) := by omega
    go_enter Tryz.func45, Tryz.ntmps45
    go_wp2
    go_ret
    exact ⟨by simp, rfl⟩
theorem enterRoom : ∀ args w, (callFunc 45 args).run Tryz.prog w = .ok (.enter 45 args) w := enters_of Tryz.func45 (by kernel_rfl) rfl

/-- may a byte stand behind each of them -/
def roomy (es : List ByteArray) : Bool := es.all fun s => decide (s.size < 1000)

set_option maxRecDepth 10000 in
set_option maxHeartbeats 4000000 in
theorem indexRoom_any (es : List ByteArray) (u : Value) (w : World) (hu : ∃ a cap, u = .slice a es.length cap ∧ (es ≠ [] → ∃ g, a = some ⟨g, 0, none⟩ ∧ RowT w g es)) (hl : es.length ≤ 1000000000) (hs : ∀ s ∈ es, s.size ≤ 9223372036854775807) :
    Calls Tryz.prog 83 #[u, .func (.func 45) #[] #[]] w fun e w' => ∃ i : Int, e = .returned (.int .i64 i) ∧ (decide (0 ≤ i) = !roomy es) ∧ w' = w := by
  obtain ⟨a, cap, rfl, hr⟩ := hu
  have hr' := hide hr
  have eg := enterRoom
  clear hr
  go_enter Tryz.func83, Tryz.ntmps83
  go_wp2
  go_loop [8] (fun i => ∃ m : Nat, m ≤ es.length ∧ i = .int .i64 (m : Int) ∧ Hid (roomy (es.take m) = true)) (fun i => es.length - (intOf i).toNat)
  case atStart => exact ⟨0, Nat.zero_le _, rfl, hide (by simp [roomy])⟩
  case round =>
    obtain ⟨m, hml, rfl, H⟩ := hrel
    by_cases hlt2 : m < es.length
    · have hi1 : (m : Int) < (es.length : Int) := by omega
      obtain ⟨s, hsm⟩ : ∃ u, es[m]? = some u := ⟨_, List.getElem?_eq_getElem hlt2⟩
      obtain ⟨g, rfl, R⟩ := unhide hr' (by rintro rfl; simp at hlt2)
      have c := R.at0 m s hsm
      have C := hide (fun wx => room1_any s wx (hs s (List.mem_of_getElem? hsm)))
      have HM := hide (List.mem_of_getElem? hsm)
      have HT : Hid (roomy (es.take (m + 1)) = (roomy (es.take m) && decide (s.size < 1000))) := hide (by simp [roomy, List.take_add_one, hsm])
      clear hsm R
      go_wp2_with fail
      refine (unhide C _).mono ?_
      rintro e w1 ⟨rfl, rfl⟩
      by_cases h : 1000 ≤ s.size
      · have h' : decide (1000 ≤ s.size) = true := by simp [h]
        have HR : Hid (roomy es = false) := hide (by
          unfold roomy
          rw [List.all_eq_false]
          exact ⟨s, unhide HM, by simp; omega⟩)
        rw [h']
        clear h h'
        go_wp2
        go_ret
        exact ⟨m, rfl, by rw [unhide HR]; simp, rfl⟩
      · have h' : decide (1000 ≤ s.size) = false := by simp [h]
        have H2 : Hid (roomy (es.take (m + 1)) = true) := hide (by rw [unhide HT, unhide H]; simp; omega)
        rw [h']
        clear h h' H HT
        go_wp2
        go_round
        case rel => exact ⟨m + 1, by omega, by go_num, H2⟩
        case measure => simp [intOf]; omega
    · obtain rfl : m = es.length := by omega
      have H2 : Hid (roomy es = true) := hide (by simpa using unhide H)
      go_wp2
      go_ret
      exact ⟨-1, rfl, by rw [unhide H2]; rfl, rfl⟩

set_option maxHeartbeats 1000000 in
theorem haveRoom_any (es : List ByteArray) (u : Value) (w : World) (hu : ∃ a cap, u = .slice a es.length cap ∧ (es ≠ [] → ∃ g, a = some ⟨g, 0, none⟩ ∧ RowT w g es)) (hl : es.length ≤ 1000000000) (hs : ∀ s ∈ es, s.size ≤ 9223372036854775807) :
    Calls Tryz.prog 21 #[u] w fun e w' => e = .returned (.bool (roomy es)) ∧ w' = w := by
  have C : Hid (Calls Tryz.prog 44 #[u, .func (.func 45) #[] #[]] w fun e w' => e = .returned (.bool (!roomy es)) ∧ w' = w) := hide (by
    have D := hide (indexRoom_any es u w hu hl hs)
    obtain ⟨a, cap, rfl, _⟩ := hu
    go_enter Tryz.func44, Tryz.ntmps44
    go_wp2_with fail
    refine (unhide D).mono ?_
    rintro e w1 ⟨i, rfl, h1, rfl⟩
    have H := hide h1
    clear h1 D
    go_wp2
    go_ret
    refine ⟨?_, rfl⟩
    rw [← unhide H]
    rfl)
  obtain ⟨a, cap, rfl, _⟩ := hu
  go_enter Tryz.func21, Tryz.ntmps21
  go_wp2_with fail
  refine (unhide C).mono ?_
  rintro e w1 ⟨rfl, rfl⟩
  go_wp2
  go_ret
  exact ⟨by simp, rfl⟩
end Go.Proofs.YtdkgapapdjefdaaGreatDoor
