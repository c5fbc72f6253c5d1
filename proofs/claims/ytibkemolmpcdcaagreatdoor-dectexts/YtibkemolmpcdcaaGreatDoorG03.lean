/- Walks: Parse. -/
import Derived.Test.YtibkemolmpcdcaaGreatDoorG02
import Derived.Test.YtibkemolmpcdcaaGreatDoorG01
import Derived.WalkKit
import Derived.WalkSpells
import Derived.WalkLawsBesides
import Derived.Deep.QuietTactic
import Derived.BigQuiet
import Derived.Outline
import Derived.Below
import Derived.Deep.Cut
namespace Go.Proofs.YtibkemolmpcdcaaGreatDoor
open Go.RowKit

/-- a text's sign is taken off -/
def pU (l : List UInt8) : List UInt8 := Lib.trimPrefix l [45]
def pB (l : List UInt8) : Bool := Lib.hasPrefix l [45]
/-- a nought ahead of further digits -/
def lead0 (a : List UInt8) : Bool := decide (1 < a.length) && decide (a.head? = some 48)
/-- is it written as a number must be? -/
def pOk (a h : List UInt8) (p : Bool) : Bool := dgs a && !lead0 a && (!p || dgs h)
def nC (B : Bool) (N : Nat) (x : Int) : Int := Dm.fC (Dm.sg B (Dm.nQ N x false)) (Dm.nE N x)
def nX (B : Bool) (N : Nat) (x : Int) : Int := Dm.fE (Dm.sg B (Dm.nQ N x false)) (Dm.nE N x)
def nR (B : Bool) (N : Nat) (x : Int) : Int := Dm.fR (Dm.sg B (Dm.nQ N x false)) (Dm.nE N x)
def vL (l : List UInt8) : Nat := Dm.val (dOf l) l.length
/-- what Parse tells of a text -/
def parseF (l : List UInt8) : Int × Int × Int :=
  if 100 < l.length then (0, 0, 4)
  else if pOk (cut1 (pU l) 46).1 (cut1 (pU l) 46).2.1 (cut1 (pU l) 46).2.2 = true then
    (nC (pB l) (vL ((cut1 (pU l) 46).1 ++ (cut1 (pU l) 46).2.1)) (-((cut1 (pU l) 46).2.1.length : Int)), nX (pB l) (vL ((cut1 (pU l) 46).1 ++ (cut1 (pU l) 46).2.1)) (-((cut1 (pU l) 46).2.1.length : Int)), nR (pB l) (vL ((cut1 (pU l) 46).1 ++ (cut1 (pU l) 46).2.1)) (-((cut1 (pU l) 46).2.1.length : Int)))
  else (0, 0, 2)
def pRet (q : Int × Int × Int) : Ending := .returned (.tuple #[.agg #[.int .i64 q.1, .int .i64 q.2.1], .int .i64 q.2.2])

theorem trim_le (l p : List UInt8) : (Lib.trimPrefix l p).length ≤ l.length := by
  unfold Lib.trimPrefix; split
  · simp
  · exact Nat.le_refl _
theorem cut1_le (l : List UInt8) (c : UInt8) : (cut1 l c).1.length + (cut1 l c).2.1.length ≤ l.length := by
  unfold cut1; split
  · simp; omega
  · simp

set_option maxHeartbeats 400000 in
theorem parse_much (s : ByteArray) (w : World) (h : 100 < s.size) :
    Calls Tryz.prog 4 #[.string s] w fun e w' => e = .returned (.tuple #[.agg #[.int .i64 0, .int .i64 0], .int .i64 4]) ∧ Below w.heap.size w w' := by
  go_enter Tryz.func4, Tryz.ntmps4
  go_wp2
  exact bodyPost_ret (v := .tuple #[.agg #[.int .i64 0, .int .i64 0], .int .i64 4]) (by simp [results, Tryz.results4, go_sem]) rfl ⟨rfl, (Below.refl _ _).alloc (Nat.le_refl _) _⟩

theorem one_cell {w w3 : World} (hb : Below (w.alloc (.cells #[.int .i64 0, .int .i64 0] 23)).heap.size (w.alloc (.cells #[.int .i64 0, .int .i64 0] 23)) w3) :
    w3.cell? ⟨w.heap.size, 0, none⟩ = some (.int .i64 0) ∧ w3.cell? ⟨w.heap.size, 1, none⟩ = some (.int .i64 0) ∧ w3.frozen? ⟨w.heap.size, 0, none⟩ = false ∧ w3.frozen? ⟨w.heap.size, 1, none⟩ = false ∧ w.heap.size + 1 ≤ w3.heap.size ∧ Below w.heap.size w w3 := by
  obtain ⟨hc, hf⟩ := bcell hb
  have s := hb.size
  simp at s
  have hw : Below w.heap.size w (w.alloc (.cells #[.int .i64 0, .int .i64 0] 23)) := (Below.refl w.heap.size w).alloc (Nat.le_refl _) _
  refine ⟨?_, ?_, ?_, ?_, by omega, hw.trans (hb.mono (by simp))⟩
  all_goals first | (rw [hc _ _ (by simp)]; simp [go_sem]; done) | (rw [hf _ _ (by simp)]; simp [go_sem]; done)

theorem isDigitsL (a : ByteArray) (l : List UInt8) (h : a.data.toList = l) (w : World) (hs : a.size ≤ 1000) :
    Calls Tryz.prog 10 #[.string a] w fun e w' => e = .returned (.bool (dgs l)) ∧ w' = w := by
  subst h; exact isDigits_any a w hs

theorem head_at {A : ByteArray} {a : List UInt8} (h : A.data.toList = a) (h0 : 0 < A.size) : a.head? = some A[0] := by
  subst h
  rw [List.head?_eq_getElem?]
  exact toList_at A 0 h0

set_option maxHeartbeats 1000000 in
theorem parse_form (s U A H : ByteArray) (a h : List UInt8) (b p : Bool) (w : World) (hs : s.size ≤ 100) (hA : A.data.toList = a) (hH : H.data.toList = h) (lA : A.size + H.size ≤ 100)
    (cp : ∀ wx, Calls Tryz.prog 8 #[.string s, .string ⟨#[45]⟩] wx fun e w' => e = .returned (.tuple #[.string U, .bool b]) ∧ w' = wx)
    (cc : ∀ wx, Calls Tryz.prog 9 #[.string U, .string ⟨#[46]⟩] wx fun e w' => e = .returned (.tuple #[.string A, .string H, .bool p]) ∧ Below wx.heap.size wx w')
    (no : pOk a h p = false) :
    Calls Tryz.prog 4 #[.string s] w fun e w' => e = .returned (.tuple #[.agg #[.int .i64 0, .int .i64 0], .int .i64 2]) ∧ Below w.heap.size w w' := by
  have CP := hide cp
  have CC := hide cc
  have dA := fun wx => isDigitsL A a hA wx (by omega)
  have dH := fun wx => isDigitsL H h hH wx (by omega)
  have hs' : ¬ 100 < (s.size : Int) := by omega
  have hl : a.length = A.size := by rw [← hA]; simp
  clear cp cc
  cases qa : dgs a
  · rw [qa] at dA
    replace dA := hide dA
    replace dH := hide dH
    clear no qa
    go_enter Tryz.func4, Tryz.ntmps4
    go_wp2_with fail
    refine (unhide CP _).mono ?_
    rintro e w1 ⟨rfl, rfl⟩
    go_wp2_with fail
    refine (unhide CC _).mono ?_
    rintro e w2 ⟨rfl, hb⟩
    obtain ⟨t0, t1, f0, f1, hz, hw⟩ := one_cell hb
    clear hb
    go_wp2_with fail
    refine (unhide dA _).mono ?_
    rintro e w3 ⟨rfl, rfl⟩
    go_wp2
    exact bodyPost_ret (v := .tuple #[.agg #[.int .i64 0, .int .i64 0], .int .i64 2]) (by simp [results, Tryz.results4, go_sem, t0, t1]) rfl ⟨rfl, (hw.setCell (by simp) _).setCell (by simp) _⟩
  · rw [qa] at dA
    have hA0 : 0 < A.size := by
      rcases Nat.eq_zero_or_pos A.size with z | z
      · rw [← hl] at z
        rw [List.length_eq_zero_iff.1 z] at qa
        exact absurd qa (by decide)
      · exact z
    have hhd := head_at hA hA0
    replace dA := hide dA
    cases q0 : lead0 a
    · have p1 : p = true := by
        unfold pOk at no
        rw [qa, q0] at no
        cases p
        · simp at no
        · rfl
      have p2 : dgs h = false := by
        unfold pOk at no
        rw [qa, q0, p1] at no
        simpa using no
      rw [p2] at dH
      subst p1
      replace dH := hide dH
      have q1 : ¬ (1 < (A.size : Int)) ∨ (1 < (A.size : Int) ∧ ((A[0].toNat : Int) == 48) = false) := by
        unfold lead0 at q0
        rw [hhd, hl] at q0
        by_cases g : 1 < A.size
        · right
          refine ⟨by omega, ?_⟩
          rw [decide_eq_true g] at q0
          simp only [Bool.true_and, decide_eq_false_iff_not, Option.some.injEq] at q0
          rw [beq_eq_false_iff_ne]
          intro e
          apply q0
          apply UInt8.toNat_inj.1
          have : A[0].toNat = 48 := by omega
          rw [this]; rfl
        · left; omega
      clear no q0 qa hhd p2 hl
      rcases q1 with q1 | ⟨q1, q2⟩
      all_goals
        go_enter Tryz.func4, Tryz.ntmps4
        go_wp2_with fail
        refine (unhide CP _).mono ?_
        rintro e w1 ⟨rfl, rfl⟩
        go_wp2_with fail
        refine (unhide CC _).mono ?_
        rintro e w2 ⟨rfl, hb⟩
        obtain ⟨t0, t1, f0, f1, hz, hw⟩ := one_cell hb
        clear hb
        go_wp2_with fail
        refine (unhide dA _).mono ?_
        rintro e w3 ⟨rfl, rfl⟩
        go_wp2_with fail
        refine (unhide dH _).mono ?_
        rintro e w3 ⟨rfl, rfl⟩
        go_wp2
        exact bodyPost_ret (v := .tuple #[.agg #[.int .i64 0, .int .i64 0], .int .i64 2]) (by simp [results, Tryz.results4, go_sem, t0, t1]) rfl ⟨rfl, (hw.setCell (by simp) _).setCell (by simp) _⟩
    · have q1 : 1 < (A.size : Int) ∧ ((A[0].toNat : Int) == 48) = true := by
        unfold lead0 at q0
        rw [hhd, hl] at q0
        simp at q0
        refine ⟨by omega, ?_⟩
        rw [q0.2]
        rfl
      obtain ⟨q1, q2⟩ := q1
      clear no q0 qa hhd hl
      go_enter Tryz.func4, Tryz.ntmps4
      go_wp2_with fail
      refine (unhide CP _).mono ?_
      rintro e w1 ⟨rfl, rfl⟩
      go_wp2_with fail
      refine (unhide CC _).mono ?_
      rintro e w2 ⟨rfl, hb⟩
      obtain ⟨t0, t1, f0, f1, hz, hw⟩ := one_cell hb
      clear hb
      go_wp2_with fail
      refine (unhide dA _).mono ?_
      rintro e w3 ⟨rfl, rfl⟩
      go_wp2
      exact bodyPost_ret (v := .tuple #[.agg #[.int .i64 0, .int .i64 0], .int .i64 2]) (by simp [results, Tryz.results4, go_sem, t0, t1]) rfl ⟨rfl, (hw.setCell (by simp) _).setCell (by simp) _⟩
end Go.Proofs.YtibkemolmpcdcaaGreatDoor

/- Walks: Parse, whole. -/
namespace Go.Proofs.YtibkemolmpcdcaaGreatDoor
open Go.RowKit

theorem app_data (A H : ByteArray) : (A ++ H).data.toList = A.data.toList ++ H.data.toList := by simp
theorem ok_parts {a h : List UInt8} {p : Bool} (hp : p = false → h = []) (ok : pOk a h p = true) : dgs a = true ∧ lead0 a = false ∧ (p = true → dgs h = true) ∧ (a ++ h).all isDg = true := by
  unfold pOk at ok
  simp only [Bool.and_eq_true, Bool.not_eq_true', Bool.or_eq_true] at ok
  obtain ⟨⟨o1, o2⟩, o3⟩ := ok
  refine ⟨o1, o2, fun e => ?_, ?_⟩
  · rcases o3 with g | g
    · rw [e] at g; cases g
    · exact g
  · rw [List.all_append, Bool.and_eq_true]
    refine ⟨?_, ?_⟩
    · unfold dgs at o1; rw [Bool.and_eq_true] at o1; exact o1.1
    · cases p
      · rw [hp rfl]; rfl
      · rcases o3 with g | g
        · cases g
        · unfold dgs at g; rw [Bool.and_eq_true] at g; exact g.1

set_option maxHeartbeats 2000000 in
theorem parse_ok (s U A H : ByteArray) (a h : List UInt8) (b p : Bool) (w : World) (hs : s.size ≤ 100) (hA : A.data.toList = a) (hH : H.data.toList = h) (lA : A.size + H.size ≤ 100) (hp : p = false → h = [])
    (cp : ∀ wx, Calls Tryz.prog 8 #[.string s, .string ⟨#[45]⟩] wx fun e w' => e = .returned (.tuple #[.string U, .bool b]) ∧ w' = wx)
    (cc : ∀ wx, Calls Tryz.prog 9 #[.string U, .string ⟨#[46]⟩] wx fun e w' => e = .returned (.tuple #[.string A, .string H, .bool p]) ∧ Below wx.heap.size wx w')
    (ok : pOk a h p = true) :
    Calls Tryz.prog 4 #[.string s] w fun e w' => e = pRet (nC b (vL (a ++ h)) (-(h.length : Int)), nX b (vL (a ++ h)) (-(h.length : Int)), nR b (vL (a ++ h)) (-(h.length : Int))) ∧ Below w.heap.size w w' := by
  obtain ⟨o1, o2, o3, o4⟩ := ok_parts hp ok
  have CP := hide cp
  have CC := hide cc
  have hs' : ¬ 100 < (s.size : Int) := by omega
  have hl : a.length = A.size := by rw [← hA]; simp
  have hlh : h.length = H.size := by rw [← hH]; simp
  have happ : (A ++ H).data.toList = a ++ h := by rw [app_data, hA, hH]
  have hsz : (A ++ H).size = A.size + H.size := by simp
  have DG := hide (fun wx => digitsOf_any (A ++ H) wx (by omega) (by rw [happ]; exact o4))
  have NE := hide (fun (wx : World) (g : Nat) (hD : DS wx g 0 (A ++ H).size (dOf (A ++ H).data.toList)) => dnearest_any b false g 0 (A ++ H).size (A ++ H).size (-(H.size : Int)) (dOf (A ++ H).data.toList) wx hD (Nat.le_refl _) (by omega) (by omega) (by omega))
  have HV : Hid (Dm.val (dOf (A ++ H).data.toList) (A ++ H).size = vL (a ++ h)) := by
    refine hide ?_
    unfold vL
    rw [happ, hsz, List.length_append, hl, hlh]
  rw [unhide HV] at NE
  have dA := fun wx => isDigitsL A a hA wx (by omega)
  have dH := fun wx => isDigitsL H h hH wx (by omega)
  rw [o1] at dA
  replace dA := hide dA
  have hA0 : 0 < A.size := by
    rcases Nat.eq_zero_or_pos A.size with z | z
    · rw [← hl] at z
      rw [List.length_eq_zero_iff.1 z] at o1
      exact absurd o1 (by decide)
    · exact z
  have hhd := head_at hA hA0
  have q1 : ¬ (1 < (A.size : Int)) ∨ (1 < (A.size : Int) ∧ ((A[0].toNat : Int) == 48) = false) := by
    unfold lead0 at o2
    rw [hhd, hl] at o2
    by_cases g : 1 < A.size
    · right
      refine ⟨by omega, ?_⟩
      rw [decide_eq_true g] at o2
      simp only [Bool.true_and, decide_eq_false_iff_not, Option.some.injEq] at o2
      rw [beq_eq_false_iff_ne]
      intro e
      apply o2
      apply UInt8.toNat_inj.1
      have : A[0].toNat = 48 := by omega
      rw [this]; rfl
    · left; omega
  have HL : Hid ((h.length : Int) = (H.size : Int)) := hide (by omega)
  have hHs : H.size ≤ 100 := by omega
  generalize hK : (A ++ H) = K at *
  have HK := hide hK
  have hKs : K.size ≤ 100 := by omega
  clear cp cc ok hp o1 o2 o4 hhd hlh hl happ hsz hA hH hK
  generalize vL (a ++ h) = N at *
  cases p
  · clear o3 dH
    rcases q1 with q1 | ⟨q1, q2⟩
    all_goals
      go_enter Tryz.func4, Tryz.ntmps4
      go_wp2_with fail
      refine (unhide CP _).mono ?_
      rintro e w1 ⟨rfl, rfl⟩
      go_wp2_with fail
      refine (unhide CC _).mono ?_
      rintro e w2 ⟨rfl, hb⟩
      go_wp2_with fail
      refine (unhide dA _).mono ?_
      rintro e w3 ⟨rfl, rfl⟩
      go_wp2_with fail
      rw [unhide HK]
      refine (unhide DG _).mono ?_
      rintro e w4 ⟨rfl, hD, hb2⟩
      have HD := hide hD
      have HB := hide (hb.trans (hb2.mono hb.size))
      clear hD hb hb2
      go_wp2_with fail
      refine (unhide NE _ _ (unhide HD)).mono ?_
      rintro e w5 ⟨rfl, hb3⟩
      obtain ⟨t0, t1, f0, f1, hz, hw⟩ := one_cell ((unhide HB).trans (hb3.mono (unhide HB).size))
      clear hb3 HB HD
      go_wp2
      refine bodyPost_ret (v := .tuple #[.agg #[.int .i64 (nC b N (-(H.size : Int))), .int .i64 (nX b N (-(H.size : Int)))], .int .i64 (nR b N (-(H.size : Int)))]) (by simp [results, Tryz.results4, go_sem, t0, t1, nC, nX, nR]) rfl ⟨?_, (hw.setCell (by simp) _).setCell (by simp) _⟩
      rw [unhide HL]
      rfl
  · rw [o3 rfl] at dH
    replace dH := hide dH
    clear o3
    rcases q1 with q1 | ⟨q1, q2⟩
    all_goals
      go_enter Tryz.func4, Tryz.ntmps4
      go_wp2_with fail
      refine (unhide CP _).mono ?_
      rintro e w1 ⟨rfl, rfl⟩
      go_wp2_with fail
      refine (unhide CC _).mono ?_
      rintro e w2 ⟨rfl, hb⟩
      go_wp2_with fail
      refine (unhide dA _).mono ?_
      rintro e w3 ⟨rfl, rfl⟩
      go_wp2_with fail
      refine (unhide dH _).mono ?_
      rintro e w3 ⟨rfl, rfl⟩
      go_wp2_with fail
      rw [unhide HK]
      refine (unhide DG _).mono ?_
      rintro e w4 ⟨rfl, hD, hb2⟩
      have HD := hide hD
      have HB := hide (hb.trans (hb2.mono hb.size))
      clear hD hb hb2
      go_wp2_with fail
      refine (unhide NE _ _ (unhide HD)).mono ?_
      rintro e w5 ⟨rfl, hb3⟩
      obtain ⟨t0, t1, f0, f1, hz, hw⟩ := one_cell ((unhide HB).trans (hb3.mono (unhide HB).size))
      clear hb3 HB HD
      go_wp2
      refine bodyPost_ret (v := .tuple #[.agg #[.int .i64 (nC b N (-(H.size : Int))), .int .i64 (nX b N (-(H.size : Int)))], .int .i64 (nR b N (-(H.size : Int)))]) (by simp [results, Tryz.results4, go_sem, t0, t1, nC, nX, nR]) rfl ⟨?_, (hw.setCell (by simp) _).setCell (by simp) _⟩
      rw [unhide HL]
      rfl

theorem cut1_none (l : List UInt8) (c : UInt8) : (cut1 l c).2.2 = false → (cut1 l c).2.1 = [] := by
  unfold cut1; split
  · intro h; cases h
  · intro _; rfl

theorem parse_any (s : ByteArray) (w : World) (hs : s.size ≤ 9223372036854775807) :
    Calls Tryz.prog 4 #[.string s] w fun e w' => e = pRet (parseF s.data.toList) ∧ Below w.heap.size w w' := by
  have hl : s.data.toList.length = s.size := by simp
  by_cases h : 100 < s.size
  · refine (parse_much s w h).mono ?_
    rintro e w' ⟨rfl, hb⟩
    refine ⟨?_, hb⟩
    unfold parseF
    rw [if_pos (by omega)]
    rfl
  · have hU := trim_le s.data.toList [45]
    have hc := cut1_le (pU s.data.toList) 46
    have hUs : (⟨(pU s.data.toList).toArray⟩ : ByteArray).size = (pU s.data.toList).length := by simp [ByteArray.size]
    have cp : ∀ wx, Calls Tryz.prog 8 #[.string s, .string ⟨#[45]⟩] wx fun e w' => e = .returned (.tuple #[.string ⟨(pU s.data.toList).toArray⟩, .bool (pB s.data.toList)]) ∧ w' = wx := fun wx => cutPrefix_any s ⟨#[45]⟩ wx
    have cc : ∀ wx, Calls Tryz.prog 9 #[.string ⟨(pU s.data.toList).toArray⟩, .string ⟨#[46]⟩] wx fun e w' => e = .returned (.tuple #[.string ⟨(cut1 (pU s.data.toList) 46).1.toArray⟩, .string ⟨(cut1 (pU s.data.toList) 46).2.1.toArray⟩, .bool (cut1 (pU s.data.toList) 46).2.2]) ∧ Below wx.heap.size wx w' :=
      fun wx => cut_any ⟨(pU s.data.toList).toArray⟩ 46 wx (by have : (pU s.data.toList).length ≤ s.data.toList.length := hU; omega)
    have la : (⟨(cut1 (pU s.data.toList) 46).1.toArray⟩ : ByteArray).size + (⟨(cut1 (pU s.data.toList) 46).2.1.toArray⟩ : ByteArray).size ≤ 100 := by
      have : (pU s.data.toList).length ≤ s.data.toList.length := hU
      simp [ByteArray.size] at hc ⊢
      omega
    unfold parseF
    rw [if_neg (by omega)]
    cases ok : pOk (cut1 (pU s.data.toList) 46).1 (cut1 (pU s.data.toList) 46).2.1 (cut1 (pU s.data.toList) 46).2.2
    · rw [if_neg (by decide)]
      exact parse_form s _ _ _ _ _ _ _ w (by omega) rfl rfl la cp cc ok
    · rw [if_pos rfl]
      exact parse_ok s _ _ _ _ _ _ _ w (by omega) rfl rfl la (cut1_none _ _) cp cc ok
end Go.Proofs.YtibkemolmpcdcaaGreatDoor

/- Walks: pointed, Print. -/
namespace Go.Proofs.YtibkemolmpcdcaaGreatDoor
open Go.RowKit

/-- a point ahead of the last p digits, noughts ahead where there are too few -/
def zL (l : List UInt8) (p : Nat) : List UInt8 := Lib.repeatL [48] (p + 1 - l.length) ++ l
def ptL (l : List UInt8) (p : Nat) : List UInt8 := (zL l p).take ((zL l p).length - p) ++ 46 :: (zL l p).drop ((zL l p).length - p)
def signL (b : Bool) (l : List UInt8) : List UInt8 := if b = true then 45 :: l else l
def magL (n : Nat) (x : Int) : List UInt8 := if 0 ≤ x then Lib.decDigits n ++ Lib.repeatL [48] x.toNat else ptL (Lib.decDigits n) (-x).toNat
def printL (c x : Int) : List UInt8 := signL (decide (c < 0)) (magL c.natAbs x)

theorem ba_ext {a b : ByteArray} (h : a.data.toList = b.data.toList) : a = b := by
  cases a with | mk x => cases b with | mk y => simpa using h
theorem mk_list (l : List UInt8) : (⟨l.toArray⟩ : ByteArray).data.toList = l := by simp
theorem mk_size (l : List UInt8) : (⟨l.toArray⟩ : ByteArray).size = l.length := by simp [ByteArray.size]

theorem pt_eq (l : List UInt8) (p : Nat) (K : ByteArray) (hK : K.data.toList = zL l p) (at' : Nat) (ha : at' = (zL l p).length - p) :
    K.extract 0 at' ++ ⟨#[46]⟩ ++ K.extract at' K.size = ⟨(ptL l p).toArray⟩ := by
  apply ba_ext
  rw [app_data, app_data, ext_take, ext_drop, mk_list, mk_list, mk_list, hK, ha]
  unfold ptL
  simp

set_option maxHeartbeats 1000000 in
theorem pointed_any (D : ByteArray) (p : Nat) (w : World) (hD : D.size ≤ 100) (hp1 : 1 ≤ p) (hp2 : p ≤ 100) :
    Calls Tryz.prog 23 #[.string D, .int .i64 (p : Int)] w fun e w' => e = .returned (.string ⟨(ptL D.data.toList p).toArray⟩) ∧ Below w.heap.size w w' := by
  obtain ⟨z, hz⟩ : ∃ z : Nat, z = p + 1 - D.size := ⟨_, rfl⟩
  have hz1 : max 0 ((p : Int) + 1 - (D.size : Int)) = (z : Int) := by omega
  have R := fun wx => repeat_any ⟨#[48]⟩ z wx (by omega) (by simp [ByteArray.size]; omega)
  obtain ⟨Z, hZ⟩ : ∃ Z : ByteArray, Z = ⟨(Lib.repeatL (⟨#[48]⟩ : ByteArray).data.toList z).toArray⟩ := ⟨_, rfl⟩
  rw [← hZ] at R
  have hZs : Z.size = z := by rw [hZ, mk_size, Lib.repeatL_length]; simp
  obtain ⟨K, hK⟩ : ∃ K : ByteArray, K = Z ++ D := ⟨_, rfl⟩
  have hKs : K.size = z + D.size := by rw [hK, ByteArray.size_append, hZs]
  have hKl : K.data.toList = zL D.data.toList p := by
    rw [hK, app_data, hZ, mk_list, hz]
    unfold zL
    rw [← Lib.size_eq]
  have HE := hide (pt_eq D.data.toList p K hKl (K.size - p) (by rw [← hKl, ← Lib.size_eq]))
  have HK := hide hK.symm
  have HZ1 := hide hz1
  replace R := hide R
  obtain ⟨m, hm⟩ : ∃ m : Nat, m = K.size - p := ⟨_, rfl⟩
  have HM : Hid ((Z.size : Int) + (D.size : Int) - (p : Int) = (m : Int)) := hide (by omega)
  rw [← hm] at HE
  have c1 : (0 : Int) ≤ (m : Int) := by omega
  have c2 : (m : Int) ≤ (K.size : Int) := by omega
  have hKb : K.size ≤ 300 := by omega
  have hZD : Z.size + D.size ≤ 300 := by omega
  clear hz hz1 hZ hZs hK hKs hKl hm
  go_enter Tryz.func23, Tryz.ntmps23
  go_wp2_with fail
  rw [unhide HZ1]
  refine (unhide R _).mono ?_
  rintro e w1 ⟨rfl, hb⟩
  have HB := hide hb
  clear hb
  go_wp2_with fail
  rw [unhide HK]
  go_wp2_with fail
  rw [unhide HM]
  go_region
  go_wp2
  go_ret
  refine ⟨?_, (unhide HB).drew⟩
  rw [← unhide HE]
  rfl

theorem two_cells {w w3 : World} {c x : Int} (hb : Below (w.alloc (.cells #[.int .i64 c, .int .i64 x] 23)).heap.size (w.alloc (.cells #[.int .i64 c, .int .i64 x] 23)) w3) :
    w3.cell? ⟨w.heap.size, 0, none⟩ = some (.int .i64 c) ∧ w3.cell? ⟨w.heap.size, 1, none⟩ = some (.int .i64 x) ∧ w.heap.size + 1 ≤ w3.heap.size ∧ Below w.heap.size w w3 := by
  obtain ⟨hc, hf⟩ := bcell hb
  have s := hb.size
  simp at s
  have hw : Below w.heap.size w (w.alloc (.cells #[.int .i64 c, .int .i64 x] 23)) := (Below.refl w.heap.size w).alloc (Nat.le_refl _) _
  refine ⟨?_, ?_, by omega, hw.trans (hb.mono (by simp))⟩
  all_goals (rw [hc _ _ (by simp)]; simp [go_sem])

set_option maxHeartbeats 400000 in
theorem print_no (c x : Int) (w : World) (h : (Dm.wrongN c x != 0) = true) :
    Calls Tryz.prog 6 #[.agg #[.int .i64 c, .int .i64 x]] w fun e w' => e = .returned (.tuple #[.string ⟨#[]⟩, .int .i64 (Dm.wrongN c x)]) ∧ Below w.heap.size w w' := by
  go_enter Tryz.func6, Tryz.ntmps6
  go_wp2_with fail
  refine (wrong_any c x _).mono ?_
  rintro e w1 ⟨rfl, hb⟩
  obtain ⟨t0, t1, hz, hw⟩ := two_cells hb
  clear hb
  go_wp2
  go_ret2
  exact ⟨rfl, hw⟩

theorem sign_eq (b : Bool) (l : List UInt8) (T : ByteArray) (hT : T.data.toList = l) : (b = true → (⟨#[45]⟩ : ByteArray) ++ T = ⟨(signL b l).toArray⟩) ∧ (b = false → T = ⟨(signL b l).toArray⟩) := by
  refine ⟨fun h => ?_, fun h => ?_⟩
  · apply ba_ext
    rw [app_data, mk_list, hT, h]
    rfl
  · apply ba_ext
    rw [mk_list, hT, h]
    rfl

theorem nDigits_le : ∀ (k n : Nat), n < 10 ^ (k + 1) → Lib.nDigits n ≤ k + 1
  | 0, n, h => by rw [Lib.nDigits_small (by simpa using h)]; omega
  | k + 1, n, h => by
    by_cases g : n < 10
    · rw [Lib.nDigits_small g]; omega
    · rw [Lib.nDigits_big g]
      have := nDigits_le k (n / 10) (by rw [Nat.pow_succ] at h; omega)
      omega
theorem nDigits_18 {n : Nat} (h : n < 1000000000000000000) : (Lib.decDigits n).length ≤ 18 := by
  rw [Lib.decDigits_length]
  exact nDigits_le 17 n (by simpa using h)

theorem keep2 {w wa wb : World} {c x : Int} (hb : Below wa.heap.size wa wb) (k : wa.cell? ⟨w.heap.size, 0, none⟩ = some (.int .i64 c) ∧ wa.cell? ⟨w.heap.size, 1, none⟩ = some (.int .i64 x) ∧ w.heap.size + 1 ≤ wa.heap.size ∧ Below w.heap.size w wa) :
    wb.cell? ⟨w.heap.size, 0, none⟩ = some (.int .i64 c) ∧ wb.cell? ⟨w.heap.size, 1, none⟩ = some (.int .i64 x) ∧ w.heap.size + 1 ≤ wb.heap.size ∧ Below w.heap.size w wb :=
  ⟨(hb.cell (p := ⟨w.heap.size, 0, none⟩) (by show w.heap.size < _; omega)).trans k.1, (hb.cell (p := ⟨w.heap.size, 1, none⟩) (by show w.heap.size < _; omega)).trans k.2.1, by have := hb.size; omega, k.2.2.2.trans (hb.mono (by omega))⟩

theorem size_45 (K : ByteArray) (h : K.size ≤ 100) : (⟨#[45]⟩ : ByteArray).size + K.size ≤ 200 := by
  have : (⟨#[45]⟩ : ByteArray).size = 1 := rfl
  omega

set_option maxHeartbeats 1000000 in
theorem print_ok (c x : Int) (w : World) (h : Dm.wrongN c x = 0) (htab : Lib.TabIs Tryz.prog w "internal/strconv.uint64pow10" .u64 Lib.pow10Tab) :
    Calls Tryz.prog 6 #[.agg #[.int .i64 c, .int .i64 x]] w fun e w' => e = .returned (.tuple #[.string ⟨(printL c x).toArray⟩, .int .i64 0]) ∧ Below w.heap.size w w' := by
  obtain ⟨p1, p2, p3, p4, _⟩ := Dm.wrong_ok h
  have H := hide h
  have hn : c.natAbs < 1000000000000000000 := by omega
  have hdl := nDigits_18 hn
  have TB := hide (Lib.tabBelow_of_tabIs htab)
  clear h htab
  have SZ := hide (fun wx => size_any c x wx p1 p2)
  have FU := hide (fun wx (hw : Below w.heap.size w wx) => formatUint_any c.natAbs (by omega) wx (unhide TB wx hw))
  obtain ⟨F, hF⟩ : ∃ F : ByteArray, F = ⟨(Lib.decDigits c.natAbs).toArray⟩ := ⟨_, rfl⟩
  rw [← hF] at FU
  have hFl : F.data.toList = Lib.decDigits c.natAbs := by rw [hF]
  have hFs : F.size ≤ 18 := by rw [Lib.size_eq, hFl]; exact hdl
  by_cases hx : 0 ≤ x
  · obtain ⟨z, hz⟩ : ∃ z : Nat, x = (z : Int) := ⟨x.toNat, by omega⟩
    subst hz
    have R := hide (fun wx => repeat_any ⟨#[48]⟩ z wx (by omega) (by simp [ByteArray.size]; omega))
    obtain ⟨Z, hZ⟩ : ∃ Z : ByteArray, Z = ⟨(Lib.repeatL (⟨#[48]⟩ : ByteArray).data.toList z).toArray⟩ := ⟨_, rfl⟩
    rw [← hZ] at R
    have hZs : Z.size = z := by rw [hZ, mk_size, Lib.repeatL_length]; simp
    obtain ⟨K, hK⟩ : ∃ K : ByteArray, K = F ++ Z := ⟨_, rfl⟩
    have hKl : K.data.toList = magL c.natAbs (z : Int) := by
      rw [hK, app_data, hFl, hZ, mk_list]
      unfold magL
      rw [if_pos hx, Int.toNat_natCast]
    have hKs : K.size ≤ 100 := by rw [hK, ByteArray.size_append]; omega
    have HK := hide hK.symm
    have hb0 : F.size + Z.size ≤ 100 := by omega
    have SG := hide (sign_eq (decide (c < 0)) _ K hKl)
    have hb1 := size_45 K hKs
    clear hF hFl hdl hn hZ hZs hK hKl
    by_cases hc : c < 0
    · have E := hide ((unhide SG).1 (by simpa using hc))
      rw [← unhide HK] at E
      clear SG
      go_enter Tryz.func6, Tryz.ntmps6
      go_wp2_with fail
      refine (wrong_any c (z : Int) _).mono ?_
      rintro e w1 ⟨rfl, hb⟩
      have k1 := two_cells hb
      rw [unhide H]
      clear hb
      have K1 := hide k1
      obtain ⟨t0, t1, hz1, hw⟩ := k1
      go_wp2_with fail
      refine (unhide SZ _).mono ?_
      rintro e w2 ⟨rfl, hb⟩
      replace K1 := keep2 hb (unhide K1)
      clear hb t0 t1 hz1 hw
      have k2 := K1
      clear K1
      have K1 := hide k2
      obtain ⟨t0, t1, hz1, hw⟩ := k2
      go_wp2_with fail
      refine (unhide FU _ hw).mono ?_
      rintro e w3 ⟨rfl, hb⟩
      replace K1 := keep2 hb (unhide K1)
      clear hb t0 t1 hz1 hw
      have k3 := K1
      clear K1
      have K1 := hide k3
      obtain ⟨t0, t1, hz1, hw⟩ := k3
      go_wp2_with fail
      refine (unhide R _).mono ?_
      rintro e w4 ⟨rfl, hb⟩
      replace K1 := keep2 hb (unhide K1)
      clear hb t0 t1 hz1 hw
      have k4 := K1
      clear K1
      obtain ⟨t0, t1, hz1, hw⟩ := k4
      go_wp2
      go_ret2
      refine ⟨?_, hw⟩
      rw [show printL c (z : Int) = signL (decide (c < 0)) (magL c.natAbs (z : Int)) from rfl, ← unhide E]
      rfl
    · have E := hide ((unhide SG).2 (by simpa using hc))
      rw [← unhide HK] at E
      clear SG
      go_enter Tryz.func6, Tryz.ntmps6
      go_wp2_with fail
      refine (wrong_any c (z : Int) _).mono ?_
      rintro e w1 ⟨rfl, hb⟩
      have k1 := two_cells hb
      rw [unhide H]
      clear hb
      have K1 := hide k1
      obtain ⟨t0, t1, hz1, hw⟩ := k1
      go_wp2_with fail
      refine (unhide SZ _).mono ?_
      rintro e w2 ⟨rfl, hb⟩
      replace K1 := keep2 hb (unhide K1)
      clear hb t0 t1 hz1 hw
      have k2 := K1
      clear K1
      have K1 := hide k2
      obtain ⟨t0, t1, hz1, hw⟩ := k2
      go_wp2_with fail
      refine (unhide FU _ hw).mono ?_
      rintro e w3 ⟨rfl, hb⟩
      replace K1 := keep2 hb (unhide K1)
      clear hb t0 t1 hz1 hw
      have k3 := K1
      clear K1
      have K1 := hide k3
      obtain ⟨t0, t1, hz1, hw⟩ := k3
      go_wp2_with fail
      refine (unhide R _).mono ?_
      rintro e w4 ⟨rfl, hb⟩
      replace K1 := keep2 hb (unhide K1)
      clear hb t0 t1 hz1 hw
      have k4 := K1
      clear K1
      obtain ⟨t0, t1, hz1, hw⟩ := k4
      go_wp2
      go_ret2
      refine ⟨?_, hw⟩
      rw [show printL c (z : Int) = signL (decide (c < 0)) (magL c.natAbs (z : Int)) from rfl, ← unhide E]
      rfl
  · obtain ⟨p, hp⟩ : ∃ p : Nat, x = -(p : Int) := ⟨(-x).toNat, by omega⟩
    subst hp
    have R := hide (fun wx => pointed_any F p wx (by omega) (by omega) (by omega))
    obtain ⟨K, hK⟩ : ∃ K : ByteArray, K = ⟨(ptL F.data.toList p).toArray⟩ := ⟨_, rfl⟩
    rw [← hK] at R
    have hKl : K.data.toList = magL c.natAbs (-(p : Int)) := by
      rw [hK, mk_list, hFl]
      unfold magL
      rw [if_neg hx, show (- -(p : Int)).toNat = p by omega]
    have hKs : K.size ≤ 100 := by
      rw [hK, mk_size]
      unfold ptL zL
      simp [Lib.repeatL_length]
      omega
    have SG := hide (sign_eq (decide (c < 0)) _ K hKl)
    have hb1 := size_45 K hKs
    clear hF hFl hdl hn hK hKl
    by_cases hc : c < 0
    · have E := hide ((unhide SG).1 (by simpa using hc))
      clear SG
      go_enter Tryz.func6, Tryz.ntmps6
      go_wp2_with fail
      refine (wrong_any c (-(p : Int)) _).mono ?_
      rintro e w1 ⟨rfl, hb⟩
      have k1 := two_cells hb
      rw [unhide H]
      clear hb
      have K1 := hide k1
      obtain ⟨t0, t1, hz1, hw⟩ := k1
      go_wp2_with fail
      refine (unhide SZ _).mono ?_
      rintro e w2 ⟨rfl, hb⟩
      replace K1 := keep2 hb (unhide K1)
      clear hb t0 t1 hz1 hw
      have k2 := K1
      clear K1
      have K1 := hide k2
      obtain ⟨t0, t1, hz1, hw⟩ := k2
      go_wp2_with fail
      refine (unhide FU _ hw).mono ?_
      rintro e w3 ⟨rfl, hb⟩
      replace K1 := keep2 hb (unhide K1)
      clear hb t0 t1 hz1 hw
      have k3 := K1
      clear K1
      have K1 := hide k3
      obtain ⟨t0, t1, hz1, hw⟩ := k3
      go_wp2_with fail
      refine (unhide R _).mono ?_
      rintro e w4 ⟨rfl, hb⟩
      replace K1 := keep2 hb (unhide K1)
      clear hb t0 t1 hz1 hw
      have k4 := K1
      clear K1
      obtain ⟨t0, t1, hz1, hw⟩ := k4
      go_wp2
      go_ret2
      refine ⟨?_, hw⟩
      rw [show printL c (-(p : Int)) = signL (decide (c < 0)) (magL c.natAbs (-(p : Int))) from rfl, ← unhide E]
      rfl
    · have E := hide ((unhide SG).2 (by simpa using hc))
      clear SG
      go_enter Tryz.func6, Tryz.ntmps6
      go_wp2_with fail
      refine (wrong_any c (-(p : Int)) _).mono ?_
      rintro e w1 ⟨rfl, hb⟩
      have k1 := two_cells hb
      rw [unhide H]
      clear hb
      have K1 := hide k1
      obtain ⟨t0, t1, hz1, hw⟩ := k1
      go_wp2_with fail
      refine (unhide SZ _).mono ?_
      rintro e w2 ⟨rfl, hb⟩
      replace K1 := keep2 hb (unhide K1)
      clear hb t0 t1 hz1 hw
      have k2 := K1
      clear K1
      have K1 := hide k2
      obtain ⟨t0, t1, hz1, hw⟩ := k2
      go_wp2_with fail
      refine (unhide FU _ hw).mono ?_
      rintro e w3 ⟨rfl, hb⟩
      replace K1 := keep2 hb (unhide K1)
      clear hb t0 t1 hz1 hw
      have k3 := K1
      clear K1
      have K1 := hide k3
      obtain ⟨t0, t1, hz1, hw⟩ := k3
      go_wp2_with fail
      refine (unhide R _).mono ?_
      rintro e w4 ⟨rfl, hb⟩
      replace K1 := keep2 hb (unhide K1)
      clear hb t0 t1 hz1 hw
      have k4 := K1
      clear K1
      obtain ⟨t0, t1, hz1, hw⟩ := k4
      go_wp2
      go_ret2
      refine ⟨?_, hw⟩
      rw [show printL c (-(p : Int)) = signL (decide (c < 0)) (magL c.natAbs (-(p : Int))) from rfl, ← unhide E]
      rfl
end Go.Proofs.YtibkemolmpcdcaaGreatDoor

/- Plain facts: what Print writes Parse reads. -/
namespace Go.Proofs.YtibkemolmpcdcaaGreatDoor

theorem vL_app (l m : List UInt8) : vL (l ++ m) = vL l * 10 ^ m.length + vL m := by
  unfold vL
  rw [List.length_append, Dm.val_drop]
  congr 1
  · congr 1
    refine Dm.val_congr _ fun j hj => ?_
    unfold dOf
    rw [List.getD_eq_getElem?_getD, List.getD_eq_getElem?_getD, List.getElem?_append_left hj]
  · refine Dm.val_congr _ fun j hj => ?_
    unfold dOf
    rw [List.getD_eq_getElem?_getD, List.getD_eq_getElem?_getD, List.getElem?_append_right (by omega)]
    congr 4
    omega
theorem vL_one (c : UInt8) : vL [c] = c.toNat - 48 := by simp [vL, Dm.val, dOf]
theorem rep_eq : ∀ z, Lib.repeatL [48] z = List.replicate z 48
  | 0 => rfl
  | z + 1 => by rw [Lib.repeatL, rep_eq z]; rfl
theorem vL_zeros (z : Nat) : vL (List.replicate z 48) = 0 := by
  unfold vL
  refine Dm.val_zeros _ fun j hj => ?_
  unfold dOf
  simp at hj
  simp [List.getD_eq_getElem?_getD, hj]
theorem ofNat_dg {d : Nat} (h : d < 10) : (UInt8.ofNat (48 + d)).toNat = 48 + d := by
  rw [UInt8.toNat_ofNat']; omega
theorem isDg_ofNat {d : Nat} (h : d < 10) : isDg (UInt8.ofNat (48 + d)) = true := by
  unfold isDg; rw [ofNat_dg h]; simp; omega
theorem dec_props (n : Nat) : (Lib.decDigits n).all isDg = true ∧ vL (Lib.decDigits n) = n ∧ (Lib.decDigits n ≠ []) ∧ (1 ≤ n → (Lib.decDigits n).head? ≠ some 48) := by
  induction n using Nat.strongRecOn with
  | _ n ih =>
    by_cases h : n < 10
    · have e : Lib.decDigits n = [UInt8.ofNat (48 + n)] := by rw [Lib.decDigits, dif_pos h]
      rw [e]
      refine ⟨by rw [List.all_cons, isDg_ofNat h]; rfl, by rw [vL_one, ofNat_dg h]; omega, by simp, fun h1 => ?_⟩
      simp only [List.head?_cons, ne_eq, Option.some.injEq]
      intro q
      have := congrArg UInt8.toNat q
      rw [ofNat_dg h] at this
      have : (48 : UInt8).toNat = 48 := rfl
      omega
    · have e : Lib.decDigits n = Lib.decDigits (n / 10) ++ [UInt8.ofNat (48 + n % 10)] := by rw [Lib.decDigits, dif_neg h]
      have m : n % 10 < 10 := Nat.mod_lt _ (by omega)
      obtain ⟨a, b, c, d⟩ := ih (n / 10) (by omega)
      rw [e]
      refine ⟨by rw [List.all_append, a, List.all_cons, isDg_ofNat m]; rfl, ?_, by simp, fun _ => ?_⟩
      · rw [vL_app, b, vL_one, ofNat_dg m]; simp; omega
      · have hd := d (by omega)
        cases q : Lib.decDigits (n / 10) with
        | nil => exact absurd q c
        | cons x xs => rw [q] at hd; simpa using hd
theorem all_rep (z : Nat) : (List.replicate z (48 : UInt8)).all isDg = true := by
  rw [List.all_eq_true]; intro x hx; rw [(List.mem_replicate.1 hx).2]; decide
theorem index_none : ∀ (l : List UInt8), l.all isDg = true → Lib.indexByte l 46 = -1
  | [], _ => rfl
  | b :: l, h => by
    rw [List.all_cons, Bool.and_eq_true] at h
    have hb := isDg_bd h.1
    have ne : (b == 46) = false := by
      rw [beq_eq_false_iff_ne]; intro e; rw [e] at hb; have : (46 : UInt8).toNat = 46 := rfl; omega
    rw [Lib.indexByte, ne, index_none l h.2]
    rfl
theorem index_at : ∀ (l m : List UInt8), l.all isDg = true → Lib.indexByte (l ++ 46 :: m) 46 = (l.length : Int)
  | [], m, _ => by simp [Lib.indexByte]
  | b :: l, m, h => by
    rw [List.all_cons, Bool.and_eq_true] at h
    have hb := isDg_bd h.1
    have ne : (b == 46) = false := by
      rw [beq_eq_false_iff_ne]; intro e; rw [e] at hb; have : (46 : UInt8).toNat = 46 := rfl; omega
    have hn : ((l.length : Int) == -1) = false := by rw [beq_eq_false_iff_ne]; omega
    rw [List.cons_append, Lib.indexByte, ne, index_at l m h.2, hn]
    rfl
theorem cut1_none' {l : List UInt8} (h : l.all isDg = true) : cut1 l 46 = (l, [], false) := cut1_miss (by rw [index_none l h]; decide)
theorem cut1_at {l m : List UInt8} (h : l.all isDg = true) : cut1 (l ++ 46 :: m) 46 = (l, m, true) := by
  rw [cut1_hit (index_at l m h)]
  simp
theorem pU_sign (b : Bool) {l : List UInt8} (h : l.head?.map isDg = some true) : pU (signL b l) = l ∧ pB (signL b l) = b := by
  cases l with
  | nil => simp at h
  | cons x xs =>
    have hx : isDg x = true := by simpa using h
    have hb := isDg_bd hx
    have ne : (45 == x) = false := by
      rw [beq_eq_false_iff_ne]; intro e; rw [← e] at hb; have : (45 : UInt8).toNat = 45 := rfl; omega
    unfold pU pB Lib.trimPrefix Lib.hasPrefix signL
    cases b
    · have e : [45].isPrefixOf (x :: xs) = false := by rw [List.isPrefixOf, ne]; rfl
      simp [e]
    · simp
theorem head_all {l : List UInt8} (h : l.all isDg = true) (hn : l ≠ []) : l.head?.map isDg = some true := by
  cases l with
  | nil => exact absurd rfl hn
  | cons x xs => rw [List.all_cons, Bool.and_eq_true] at h; simp [h.1]
theorem dgs_of {l : List UInt8} (h : l.all isDg = true) (hn : l ≠ []) : dgs l = true := by
  unfold dgs; rw [h]; cases l
  · exact absurd rfl hn
  · rfl
theorem sg_abs (c : Int) (j : Nat) : Dm.sg (decide (c < 0)) (c.natAbs * 10 ^ j) = Dm.tens c j := by
  unfold Dm.sg
  by_cases h : c < 0
  · rw [if_pos (by simpa using h), (Dm.tens_abs c j).1 h]
  · rw [if_neg (by simpa using h), (Dm.tens_abs c j).2 (by omega)]
theorem told_eq {c x : Int} {j : Nat} (h : Dm.wrongN c x = 0) (hj : j ≤ 100) :
    nC (decide (c < 0)) (c.natAbs * 10 ^ j) (x - j) = c ∧ nX (decide (c < 0)) (c.natAbs * 10 ^ j) (x - j) = x ∧ nR (decide (c < 0)) (c.natAbs * 10 ^ j) (x - j) = 0 := by
  have e := Dm.sg_near (sg_abs c j) (x - j)
  have t := Dm.exact_told h hj (S := Dm.tens c j) rfl
  unfold nC nX nR
  rw [e.1, e.2]
  exact t

theorem zL_props {n p : Nat} (hp : 1 ≤ p) : (zL (Lib.decDigits n) p).all isDg = true ∧ vL (zL (Lib.decDigits n) p) = n ∧ p + 1 ≤ (zL (Lib.decDigits n) p).length ∧ lead0 ((zL (Lib.decDigits n) p).take ((zL (Lib.decDigits n) p).length - p)) = false := by
  obtain ⟨a, b, c, d⟩ := dec_props n
  have hl : (zL (Lib.decDigits n) p).length = (p + 1 - (Lib.decDigits n).length) + (Lib.decDigits n).length := by
    unfold zL; rw [rep_eq]; simp
  refine ⟨?_, ?_, by omega, ?_⟩
  · unfold zL; rw [rep_eq, List.all_append, all_rep, a]; rfl
  · unfold zL; rw [rep_eq, vL_app, vL_zeros, b]; simp
  · unfold lead0
    rw [List.length_take]
    by_cases g : (Lib.decDigits n).length < p + 2
    · have : ¬ 1 < min ((zL (Lib.decDigits n) p).length - p) (zL (Lib.decDigits n) p).length := by omega
      rw [decide_eq_false this]; rfl
    · have e : zL (Lib.decDigits n) p = Lib.decDigits n := by
        unfold zL; rw [show p + 1 - (Lib.decDigits n).length = 0 by omega]; rfl
      rw [e]
      have n1 : 1 ≤ n := by
        rcases Nat.eq_zero_or_pos n with z | z
        · subst z
          have : (Lib.decDigits 0).length = 1 := by rw [Lib.decDigits_length, Lib.nDigits_small (by omega)]
          omega
        · exact z
      have hh := d n1
      rw [Bool.and_eq_false_iff]
      right
      rw [decide_eq_false_iff_not, List.head?_take, if_neg (by omega)]
      exact hh

/-- what is written is read -/
theorem parse_print {c x : Int} (h : Dm.wrongN c x = 0) : parseF (printL c x) = (c, x, 0) := by
  obtain ⟨p1, p2, p3, p4, p5⟩ := Dm.wrong_ok h
  have hn : c.natAbs < 1000000000000000000 := by omega
  have hdl := nDigits_18 hn
  obtain ⟨a, b, cn, d⟩ := dec_props c.natAbs
  by_cases hx : 0 ≤ x
  · obtain ⟨z, hz⟩ : ∃ z : Nat, x = (z : Int) := ⟨x.toNat, by omega⟩
    subst hz
    have hm : magL c.natAbs (z : Int) = Lib.decDigits c.natAbs ++ List.replicate z 48 := by
      unfold magL; rw [if_pos hx, Int.toNat_natCast, rep_eq]
    have ma : (magL c.natAbs (z : Int)).all isDg = true := by rw [hm, List.all_append, a, all_rep]; rfl
    have mn : magL c.natAbs (z : Int) ≠ [] := by rw [hm]; intro e; exact cn (List.append_eq_nil_iff.1 e).1
    obtain ⟨u1, u2⟩ := pU_sign (decide (c < 0)) (head_all ma mn)
    have hlen : (printL c (z : Int)).length ≤ 100 := by
      unfold printL signL; rw [hm]; split <;> simp <;> omega
    have ld : lead0 (magL c.natAbs (z : Int)) = false := by
      unfold lead0
      rw [Bool.and_eq_false_iff]
      by_cases g : c.natAbs = 0
      · left
        have c0 : c = 0 := by omega
        have z0 := (p5 (by rw [c0]; rfl)).2
        have z1 : z = 0 := by omega
        rw [hm, z1, g]
        have : (Lib.decDigits 0).length = 1 := by rw [Lib.decDigits_length, Lib.nDigits_small (by omega)]
        simp [this]
      · right
        have hh := d (by omega)
        rw [hm, decide_eq_false_iff_not]
        cases q : Lib.decDigits c.natAbs with
        | nil => exact absurd q cn
        | cons y ys => rw [q] at hh; simpa using hh
    have t := told_eq (j := z) h (by omega)
    have hv : vL (magL c.natAbs (z : Int) ++ []) = c.natAbs * 10 ^ z := by
      rw [List.append_nil, hm, vL_app, b, vL_zeros, List.length_replicate, Nat.add_zero]
    unfold parseF
    rw [if_neg (by omega)]
    unfold printL
    rw [u1, u2, cut1_none' ma, if_pos (by unfold pOk; rw [dgs_of ma mn, ld]; rfl), hv]
    simp only [List.length_nil]
    rw [show -((0 : Nat) : Int) = (z : Int) - (z : Int) by omega, t.1, t.2.1, t.2.2]
  · obtain ⟨p, hp⟩ : ∃ p : Nat, x = -(p : Int) := ⟨(-x).toNat, by omega⟩
    subst hp
    have hp1 : 1 ≤ p := by omega
    obtain ⟨z1, z2, z3, z4⟩ := zL_props (n := c.natAbs) hp1
    obtain ⟨L, hL⟩ : ∃ L, L = zL (Lib.decDigits c.natAbs) p := ⟨_, rfl⟩
    rw [← hL] at z1 z2 z3 z4
    have hLl : L.length ≤ 60 := by rw [hL]; unfold zL; rw [rep_eq]; simp; omega
    have hm : magL c.natAbs (-(p : Int)) = L.take (L.length - p) ++ 46 :: L.drop (L.length - p) := by
      unfold magL; rw [if_neg hx, show (- -(p : Int)).toNat = p by omega]; unfold ptL; rw [← hL]
    have t1 : (L.take (L.length - p)).all isDg = true := by
      rw [List.all_eq_true] at z1 ⊢; intro y hy; exact z1 y (List.mem_of_mem_take hy)
    have t2 : (L.drop (L.length - p)).all isDg = true := by
      rw [List.all_eq_true] at z1 ⊢; intro y hy; exact z1 y (List.mem_of_mem_drop hy)
    have n1 : L.take (L.length - p) ≠ [] := by
      intro e; have := congrArg List.length e; simp at this; omega
    have n2 : L.drop (L.length - p) ≠ [] := by
      intro e; have := congrArg List.length e; simp at this; omega
    have hh : (magL c.natAbs (-(p : Int))).head?.map isDg = some true := by
      rw [hm]
      have := head_all t1 n1
      cases q : L.take (L.length - p) with
      | nil => exact absurd q n1
      | cons y ys => rw [q] at this; simpa using this
    obtain ⟨u1, u2⟩ := pU_sign (decide (c < 0)) hh
    have hlen : (printL c (-(p : Int))).length ≤ 100 := by
      unfold printL signL; rw [hm]; split <;> simp <;> omega
    have t := told_eq (j := 0) h (by omega)
    have hv : vL (L.take (L.length - p) ++ L.drop (L.length - p)) = c.natAbs := by rw [List.take_append_drop, z2]
    have hd : (L.drop (L.length - p)).length = p := by simp; omega
    unfold parseF
    rw [if_neg (by omega)]
    unfold printL
    rw [u1, u2, hm, cut1_at t1, if_pos (by unfold pOk; rw [dgs_of t1 n1, z4, dgs_of t2 n2]; rfl), hv, hd]
    simp only [Nat.pow_zero, Nat.mul_one, Int.natCast_zero, Int.sub_zero] at t
    rw [t.1, t.2.1, t.2.2]

theorem lead_z (D : Nat → Nat) : ∀ n, ∃ z, z ≤ n ∧ (∀ j, j < z → D j = 0) ∧ (z < n → D z ≠ 0)
  | 0 => ⟨0, Nat.le_refl _, fun j h => absurd h (by omega), fun h => absurd h (by omega)⟩
  | n + 1 => by
    obtain ⟨z, a, b, c⟩ := lead_z D n
    rcases Nat.lt_or_ge z n with g | g
    · exact ⟨z, by omega, b, fun _ => c g⟩
    · have e : z = n := by omega
      subst e
      by_cases q : D z = 0
      · exact ⟨z + 1, Nat.le_refl _, fun j hj => by by_cases r : j = z; · rw [r]; exact q
                                                    · exact b j (by omega), fun h => absurd h (by omega)⟩
      · exact ⟨z, by omega, b, fun _ => q⟩
theorem near_bd {l : List UInt8} (h : l.all isDg = true) (hl : l.length ≤ 100) {x : Int} (hx1 : -200 ≤ x) (hx2 : x ≤ 100) : Dm.nQ (vL l) x false ≤ 1000000000000000000 ∧ -40 ≤ Dm.nE (vL l) x := by
  obtain ⟨z, a, b, c⟩ := lead_z (dOf l) l.length
  obtain ⟨_, _, _, q, ey, eq⟩ := Dm.near_facts (dOf_lt h) false hl hx1 hx2 a b c rfl rfl
  refine ⟨?_, by unfold Dm.nE; omega⟩
  unfold vL
  rw [← eq]
  omega

/-- what is told is a right number -/
theorem parse_right (l : List UInt8) (h : (parseF l).2.2 = 0) : Dm.wrongN (parseF l).1 (parseF l).2.1 = 0 := by
  unfold parseF at h ⊢
  split at h
  · simp at h
  · rename_i h1
    rw [if_neg h1]
    split at h
    · rename_i h2
      rw [if_pos h2]
      have o := (ok_parts (cut1_none _ _) h2).2.2.2
      have l1 := cut1_le (pU l) 46
      have l2 : (pU l).length ≤ l.length := trim_le l [45]
      obtain ⟨b1, b2⟩ := near_bd o (by rw [List.length_append]; omega) (x := -((cut1 (pU l) 46).2.1.length : Int)) (by omega) (by omega)
      refine (Dm.round_told (C := Dm.sg (pB l) (Dm.nQ _ _ false)) ?_ ?_ b2 h).1
      · unfold Dm.sg; split <;> omega
      · unfold Dm.sg; split <;> omega
    · simp at h
end Go.Proofs.YtibkemolmpcdcaaGreatDoor

/- A region that draws its order, walked in whatever order by an invariant on what has come up, slot by slot (as stage 2's Q0d, Q2d, RA, without their values); and such an invariant by a list that says what each slot holds. -/
namespace Go.Proofs.YtibkemolmpcdcaaGreatDoor
open Go.RowKit Go.BigFrame

/-- what a slot holds -/
def G (a : Act) (i : Nat) : Value := a.tmps.getD i undef
theorem eval_G {a : Act} {i : Nat} {v : Value} (h : G a i = v) : a.eval (.tmp i) = v := h
/-- the frame behind one operation -/
structure Upd (a : Act) (d : Nat) (v : Value) (a' : Act) : Prop where
  size : a'.tmps.size = a.tmps.size
  got : G a' d = v
  rest : ∀ i, i ≠ d → G a' i = G a i
  defs : a'.defers = a.defers
theorem upd_put {a : Act} {d : Nat} {v : Value} (h : d < a.tmps.size) : Upd a d v (a.put (some d) v) := by
  refine ⟨by simp [Act.put], by simp [G, Act.put, h], fun i hi => ?_, rfl⟩
  simp [G, Act.put, Array.getD_eq_getD_getElem?, Ne.symm hi]

section
variable {P : Program} {ops : Array Oper} {Q : Exit → Act → World → Prop} {md : Region.Mode}

theorem countP_less {α : Type} {p p' : α → Bool} (hle : ∀ x, p' x = true → p x = true) {i : α} (h1 : p i = true) (h2 : p' i = false) : ∀ {l : List α}, i ∈ l → l.countP p' < l.countP p
  | x :: l, h => by
    have mono : ∀ l : List α, l.countP p' ≤ l.countP p := fun l => List.countP_mono_left fun x _ => hle x
    rcases List.mem_cons.1 h with rfl | h
    · simp only [List.countP_cons, h1, h2, if_true]
      have := mono l
      simp
      omega
    · have := countP_less hle h1 h2 h
      have hx := hle x
      simp only [List.countP_cons]
      by_cases e : p' x = true
      · simp [e, hx e]; omega
      · simp [e]; omega

/-- what has come up, closed under what it waited for -/
def Closed (md : Region.Mode) (ops : Array Oper) (L : Nat → Bool) : Prop := ∀ (j : Nat) (o : Oper), ops[j]? = some o → L j = true → ∀ e ∈ o.after, Region.binds md e = true → L e.on = true

theorem any_of (I : (Nat → Bool) → Act → World → Prop)
    (wait : ∀ (k : Nat) (o : Oper), ops[k]? = some o → ∀ e ∈ o.after, Region.binds md e = true → e.on < k)
    (step : ∀ (i : Nat) (o : Oper), ops[i]? = some o → ∀ (L : Nat → Bool) (a : Act) (w : World), I L a w → Closed md ops L → L i = false → (∀ e ∈ o.after, Region.binds md e = true → L e.on = true) →
      wpOp P ops Q i (fun a' w' => I (fun j => j == i || L j) a' w') a w)
    (done : ∀ (L : Nat → Bool) (a : Act) (w : World), I L a w → (∀ i, i < ops.size → L i = true) → Q .normal a w) :
    ∀ (fuel : Nat) (listed : Array Bool) (a : Act) (w : World), listed.size = ops.size → Closed md ops (fun i => listed.getD i false) → I (fun i => listed.getD i false) a w →
      (List.range ops.size).countP (fun i => !listed.getD i false) ≤ fuel → wpAny P md ops Q fuel listed a w := by
  intro fuel
  induction fuel with
  | zero =>
    intro listed a w hsz hcl hI hc
    have all : ∀ i, i < ops.size → listed.getD i false = true := fun i hi => by
      have := List.countP_eq_zero.1 (Nat.le_zero.1 hc) i (List.mem_range.2 hi)
      simpa using this
    refine ⟨?_, done _ a w hI all⟩
    simp only [Region.ready, List.filter_eq_nil_iff, List.mem_range]
    intro i hi
    have e : listed.getD i true = listed.getD i false := by simp [Array.getD_eq_getD_getElem?, Array.getElem?_eq_getElem (show i < listed.size by omega)]
    rw [e, all i hi]
    simp
  | succ fuel ih =>
    intro listed a w hsz hcl hI hc
    have e : ∀ i, i < ops.size → listed.getD i true = listed.getD i false := fun i hi => by simp [Array.getD_eq_getD_getElem?, Array.getElem?_eq_getElem (show i < listed.size by omega)]
    refine ⟨fun hr => ?_, fun i hi => ?_⟩
    · refine done _ a w hI ?_
      intro i
      induction i using Nat.strongRecOn with
      | _ i ihi =>
        intro hlt
        by_cases hL : listed.getD i false = true
        · exact hL
        · exfalso
          obtain ⟨o, ho⟩ : ∃ o, ops[i]? = some o := ⟨_, Array.getElem?_eq_getElem hlt⟩
          have : i ∈ Region.ready md ops listed := by
            simp only [Region.ready, List.mem_filter, List.mem_range, Bool.and_eq_true]
            refine ⟨hlt, by rw [e i hlt]; simpa using hL, ?_⟩
            rw [ho]
            simp only [Option.map_some, Option.getD_some]
            rw [Array.all_eq_true_iff_forall_mem]
            intro x hx
            by_cases hb : Region.binds md x = true
            · have hlt' := wait i o ho x hx hb
              have := ihi x.on hlt' (by omega)
              simp [this]
            · simp [hb]
          rw [hr] at this
          cases this
    · simp only [Region.ready, List.mem_filter, List.mem_range, Bool.and_eq_true] at hi
      obtain ⟨hlt, hun, hall⟩ := hi
      obtain ⟨o, ho⟩ : ∃ o, ops[i]? = some o := ⟨_, Array.getElem?_eq_getElem hlt⟩
      rw [e i hlt] at hun
      rw [ho] at hall
      simp only [Option.map_some, Option.getD_some] at hall
      rw [Array.all_eq_true_iff_forall_mem] at hall
      have hun' : listed.getD i false = false := by simpa using hun
      have hw : ∀ x ∈ o.after, Region.binds md x = true → listed.getD x.on false = true := fun x hx hb => by
        have := hall x hx
        simpa [hb] using this
      have hset : (fun j => (listed.setIfInBounds i true).getD j false) = fun j => j == i || listed.getD j false := funext fun j => by
        simp only [Array.getD_eq_getD_getElem?, Array.getElem?_setIfInBounds]
        by_cases hji : i = j
        · subst hji; simp [show i < listed.size by omega]
        · simp [hji, Ne.symm hji]
      refine wpOp_mono (fun a' w' hI' => ih _ a' w' (by simp [hsz]) ?_ (by rw [hset]; exact hI') ?_) (step i o ho _ a w hI hcl hun' hw)
      · rw [hset]
        intro j oj hoj hj x hx hb
        simp only [Bool.or_eq_true, beq_iff_eq] at hj ⊢
        rcases hj with rfl | hj
        · right
          rw [ho] at hoj
          cases hoj
          exact hw x hx hb
        · right
          exact hcl j oj hoj hj x hx hb
      · have hset' : ∀ j, (listed.setIfInBounds i true).getD j false = (j == i || listed.getD j false) := fun j => congrFun hset j
        have := countP_less (p := fun j => !listed.getD j false) (p' := fun j => !(listed.setIfInBounds i true).getD j false) (i := i) (fun x hx => by
          rw [hset'] at hx
          simp at hx ⊢
          exact hx.2) (by simpa using hun) (by rw [hset']; simp) (List.mem_range.2 hlt)
        omega

/-- a fact of each operation, by its place -/
def AllIx (S : Nat → Oper → Prop) : List Oper → Nat → Prop
  | [], _ => True
  | o :: l, k => S k o ∧ AllIx S l (k + 1)
theorem allIx_at {S : Nat → Oper → Prop} (l : List Oper) : ∀ (k : Nat), AllIx S l k → ∀ (i : Nat) (o : Oper), l[i]? = some o → S (k + i) o := by
  induction l with
  | nil => intro k h i o hi; simp at hi
  | cons o l ih =>
    intro k h i o' hi
    cases i with
    | zero =>
      simp only [List.getElem?_cons_zero, Option.some.injEq] at hi
      rw [← hi]
      exact h.1
    | succ i =>
      have := ih (k + 1) h.2 i o' (by simpa using hi)
      rwa [show k + 1 + i = k + (i + 1) by omega] at this

theorem region_any {I : (Nat → Bool) → Act → World → Prop} {id : Nat} {l : List Oper} {a : Act} {w : World} (hm : P.follows .mixedOrders = true)
    (wait : AllIx (fun k o => ∀ e ∈ o.after, Region.binds .any e = true → e.on < k) l 0)
    (step : AllIx (fun i o => ∀ (L : Nat → Bool) (a : Act) (w : World), I L a w → Closed .any l.toArray L → L i = false → (∀ e ∈ o.after, Region.binds .any e = true → L e.on = true) →
      wpOp P l.toArray Q i (fun a' w' => I (fun j => j == i || L j) a' w') a w) l 0)
    (done : ∀ (L : Nat → Bool) (a : Act) (w : World), I L a w → (∀ i, i < l.length → L i = true) → Q .normal a w)
    (start : I (fun _ => false) a w.drew) : (Code.region id l.toArray true).wp P Q a w := by
  have e0 : (fun i => (Array.replicate l.toArray.size false).getD i false) = fun _ => false := funext fun i => by
    simp only [Array.getD_eq_getD_getElem?, Array.getElem?_replicate]
    split <;> rfl
  refine wp_region_any hm (any_of I ?_ ?_ ?_ _ _ _ _ (by simp) ?_ (by rw [e0]; exact start) ?_)
  · intro k o ho
    have := allIx_at l 0 wait k o (by simpa using ho)
    rwa [Nat.zero_add] at this
  · intro i o ho
    have := allIx_at l 0 step i o (by simpa using ho)
    rwa [Nat.zero_add] at this
  · intro L a w hI hall
    exact done L a w hI (by simpa using hall)
  · rw [e0]
    intro j o _ hj
    cases hj
  · exact Nat.le_trans (List.countP_le_length) (by simp)
end

section
variable {ops : Array Oper} {Q : Exit → Act → World → Prop} {i d : Nat} {a : Act} {w : World} {K : Act → World → Prop} {t : TypeId} {p : String} {af : Array Edge}
theorem o_val {o : Oper} {v : Value} {w' : World} (hi : ops[i]? = some o) (hd : o.dst = some d) (hw : Region.wanted o (yielded ops a.tmps) = true) (hs : d < a.tmps.size) (r : (execOp a.eval o).run Tryz.prog w = .ok (.value v) w')
    (h : ∀ a', Upd a d v a' → a'.defers = a.defers → K a' w') : wpOp Tryz.prog ops Q i K a w := by
  unfold wpOp
  rw [hi]
  simp only [hw, if_true]
  left
  unfold Oper.wp
  rw [r]
  have q : K (a.put o.dst v) w' := by rw [hd]; exact h _ (upd_put hs) rfl
  exact q
theorem o_skip {o : Oper} (hi : ops[i]? = some o) (hd : o.dst = some d) (hw : Region.wanted o (yielded ops a.tmps) = false) (hs : d < a.tmps.size)
    (h : ∀ a', Upd a d undef a' → a'.defers = a.defers → K a' w) : wpOp Tryz.prog ops Q i K a w := by
  unfold wpOp
  rw [hi]
  simp only [hw, Bool.false_eq_true, if_false]
  rw [hd]
  exact h _ (upd_put hs) rfl
theorem o_enter {o : Oper} {n : Nat} {args : Array Value} {R : Value → World → Prop} (hi : ops[i]? = some o) (hd : o.dst = some d) (hw : Region.wanted o (yielded ops a.tmps) = true) (hs : d < a.tmps.size) (r : (execOp a.eval o).run Tryz.prog w = .ok (.enter n args) w)
    (hc : Calls Tryz.prog n args w fun e w' => ∃ v, e = .returned v ∧ R v w') (h : ∀ v a' w', R v w' → Upd a d v a' → a'.defers = a.defers → K a' w') : wpOp Tryz.prog ops Q i K a w := by
  unfold wpOp
  rw [hi]
  simp only [hw, if_true]
  left
  unfold Oper.wp
  rw [r]
  refine hc.mono ?_
  rintro e w' ⟨v, rfl, hR⟩
  have q : K (a.put o.dst v) w' := by rw [hd]; exact h v _ _ hR (upd_put hs) rfl
  exact q
theorem wanted_is {ops : Array Oper} {a : Act} {o : Oper} {j dj : Nat} {b c : Bool} (h : o.guard = some (j, c)) (D : (ops[j]?).bind (·.dst) = some dj) (hs : dj < a.tmps.size) (hg : G a dj = .bool b) : Region.wanted o (yielded ops a.tmps) = (b == c) := by
  have e : a.tmps[dj]? = some (.bool b) := by
    simp only [G, Array.getD_eq_getD_getElem?] at hg
    rw [Array.getElem?_eq_getElem hs] at hg ⊢
    simpa using hg
  simp [Region.wanted, h, yielded, D, e]
end

/-- what has come up, slot by slot -/
structure RI (w0 : World) (a0 : Act) (N : Nat) (D : List Nat) (Ok : Nat → Value → World → Prop) (Un : Nat → Bool) (L : Nat → Bool) (a : Act) (w : World) : Prop where
  size : a.tmps.size = N
  defs : a.defers = []
  rest : ∀ j, (∀ i d, L i = true → D[i]? = some d → d ≠ j) → G a j = G a0 j
  got : ∀ i d, L i = true → D[i]? = some d → Ok i (G a d) w
  uniq : ∀ i j d e, L i = true → L j = true → Un i = true → Un j = true → i ≠ j → D[i]? = some d → D[j]? = some e → G a d ≠ G a e
  old : Below w0.heap.size w0 w
theorem RI.keep {w0 : World} {a0 : Act} {N : Nat} {D : List Nat} {Ok : Nat → Value → World → Prop} {Un L : Nat → Bool} {a : Act} {w : World} (h : RI w0 a0 N D Ok Un L a w) {s : Nat} (hs : s ∉ D) : G a s = G a0 s :=
  h.rest s (fun _ _ _ hd e => hs (e ▸ List.mem_of_getElem? hd))
theorem RI.start {w0 : World} {a0 : Act} {N : Nat} {D : List Nat} {Ok : Nat → Value → World → Prop} {Un : Nat → Bool} {w : World} (h1 : a0.tmps.size = N) (h2 : a0.defers = []) (h3 : Below w0.heap.size w0 w) : RI w0 a0 N D Ok Un (fun _ => false) a0 w :=
  ⟨h1, h2, fun _ _ => rfl, fun _ _ h => (by cases h), fun _ _ _ _ h => (by cases h), h3⟩
theorem RI.step {w0 : World} {a0 : Act} {N : Nat} {D : List Nat} {Ok : Nat → Value → World → Prop} {Un L : Nat → Bool} {a a' : Act} {w w' : World} (h : RI w0 a0 N D Ok Un L a w) (hD : D.Nodup) (mono : ∀ i v w w', Below w.heap.size w w' → Ok i v w → Ok i v w')
    (i : Nat) {d : Nat} {v : Value} (hi : D[i]? = some d) (U : Upd a d v a') (hd : a'.defers = a.defers) (hb : Below w.heap.size w w') (ok : Ok i v w') (un : Un i = true → ∀ j e, L j = true → Un j = true → D[j]? = some e → v ≠ G a e) : RI w0 a0 N D Ok Un (fun j => j == i || L j) a' w' := by
  have inj : ∀ j, D[j]? = some d → j = i := by
    intro j hj
    have h1 := (List.getElem?_eq_some_iff.1 hi)
    have h2 := (List.getElem?_eq_some_iff.1 hj)
    obtain ⟨l1, e1⟩ := h1
    obtain ⟨l2, e2⟩ := h2
    exact (List.getElem_inj hD).1 (e2.trans e1.symm)
  refine ⟨U.size.trans h.size, hd.trans h.defs, fun j hj => ?_, fun j e hj he => ?_, fun j k e f hj hk uj uk ne he hf => ?_, h.old.trans (hb.mono h.old.size)⟩
  · have hne : j ≠ d := fun e => hj i d (by simp) hi e.symm
    rw [U.rest j hne]
    exact h.rest j (fun i' d' hi' hd' => hj i' d' (by simp [hi']) hd')
  · by_cases e1 : j = i
    · subst e1
      rw [hi] at he
      cases he
      rw [U.got]
      exact ok
    · have hL : L j = true := by simpa [e1] using hj
      have hne : e ≠ d := fun q => e1 (inj j (q ▸ he))
      rw [U.rest e hne]
      exact mono _ _ _ _ hb (h.got j e hL he)
  · by_cases e1 : j = i
    · subst e1
      rw [hi] at he
      cases he
      have hL : L k = true := by simpa [Ne.symm ne] using hk
      have hne : f ≠ d := fun q => ne (inj k (q ▸ hf)).symm
      rw [U.got, U.rest f hne]
      exact un uj k f hL uk hf
    · have hLj : L j = true := by simpa [e1] using hj
      have hne : e ≠ d := fun q => e1 (inj j (q ▸ he))
      rw [U.rest e hne]
      by_cases e2 : k = i
      · subst e2
        rw [hi] at hf
        cases hf
        rw [U.got]
        exact fun q => un uk j e hLj uj he q.symm
      · have hLk : L k = true := by simpa [e2] using hk
        have hne2 : f ≠ d := fun q => e2 (inj k (q ▸ hf))
        rw [U.rest f hne2]
        exact h.uniq j k e f hLj hLk uj uk ne he hf
/-- a frame, slot by slot -/
theorem frame_eqs {a : Act} {N : Nat} (h : a.tmps.size = N) : a.tmps = ((List.range N).map (G a)).toArray := by
  apply Array.ext
  · simp [h]
  · intro i h1 h2
    simp [G, Array.getD_eq_getD_getElem?, Array.getElem?_eq_getElem h1]
theorem frame_intro {P : Program} {code : Code} {Q : Exit → Act → World → Prop} {a0 : Act} {w : World} (S : Act → Prop) (h : S a0) (k : ∀ a, S a → Code.wp P code Q a w) : Code.wp P code Q a0 w := k a0 h
theorem frame_is {a : Act} {N : Nat} (hs : a.tmps.size = N) (hd : a.defers = []) : a = { tmps := ((List.range N).map (G a)).toArray, defers := [] } := by
  cases a with
  | mk t d =>
    simp only at hs hd
    subst hd
    congr 1
    exact frame_eqs (a := ⟨t, []⟩) hs
end Go.Proofs.YtibkemolmpcdcaaGreatDoor
