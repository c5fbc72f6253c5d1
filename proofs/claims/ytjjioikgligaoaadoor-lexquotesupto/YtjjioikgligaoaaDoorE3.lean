/- Walks: Parse. -/
import Derived.Test.YtjjioikgligaoaaDoorE2
import Derived.Test.YtjjioikgligaoaaDoorW8
import Derived.Test.YtjjioikgligaoaaDoorDig3
namespace Go.Proofs.YtjjioikgligaoaaDoor
open Go.RowKit

/-- a text's sign is taken off -/
def pU (l : List UInt8) : List UInt8 := Lib.trimPrefix l [45]
def pB (l : List UInt8) : Bool := Lib.hasPrefix l [45]
/-- a nought ahead of further digits -/
def lead0 (a : List UInt8) : Bool := decide (1 < a.length) && decide (a.head? = some 48)
/-- is it written as a number must be? -/
def pOk (a h : List UInt8) (p : Bool) : Bool := dgs a && !lead0 a && (!p || dgs h)
def nC (B : Bool) (N : Nat) (x : Int) : Int := Dm.fC (Dm.sg B (Dm.nQ N x false)) (Dm.nE N x)
def nX (B : Bool) (N : Nat) (x : Int) : Int := Dm.fE (Dm.sg B (Dm.nQ N x false)) (Dm.nE N x)
def nR (B : Bool) (N : Nat) (x : Int) : Int := Dm.fR (Dm.sg B (Dm.nQ N x false)) (Dm.nE N x)
def vL (l : List UInt8) : Nat := Dm.val (dOf l) l.length
/-- what Parse tells of a text -/
def parseF (l : List UInt8) : Int × Int × Int :=
  if 100 < l.length then (0, 0, 4)
  else if pOk (cut1 (pU l) 46).1 (cut1 (pU l) 46).2.1 (cut1 (pU l) 46).2.2 = true then
    (nC (pB l) (vL ((cut1 (pU l) 46).1 ++ (cut1 (pU l) 46).2.1)) (-((cut1 (pU l) 46).2.1.length : Int)), nX (pB l) (vL ((cut1 (pU l) 46).1 ++ (cut1 (pU l) 46).2.1)) (-((cut1 (pU l) 46).2.1.length : Int)), nR (pB l) (vL ((cut1 (pU l) 46).1 ++ (cut1 (pU l) 46).2.1)) (-((cut1 (pU l) 46).2.1.length : Int)))
  else (0, 0, 2)
def pRet (q : Int × Int × Int) : Ending := .returned (.tuple #[.agg #[.int .i64 q.1, .int .i64 q.2.1], .int .i64 q.2.2])

theorem trim_le (l p : List UInt8) : (Lib.trimPrefix l p).length ≤ l.length := by
  unfold Lib.trimPrefix; split
  · simp
  · exact Nat.le_refl _
theorem cut1_le (l : List UInt8) (c : UInt8) : (cut1 l c).1.length + (cut1 l c).2.1.length ≤ l.length := by
  unfold cut1; split
  · simp; omega
  · simp

set_option maxHeartbeats 400000 in
theorem parse_much (s : ByteArray) (w : World) (h : 100 < s.size) :
    Calls Tryd.prog 34 #[.string s] w fun e w' => e = .returned (.tuple #[.agg #[.int .i64 0, .int .i64 0], .int .i64 4]) ∧ Below w.heap.size w w' := by
  go_enter Tryd.func34, Tryd.ntmps34
  go_wp2
  exact bodyPost_ret (v := .tuple #[.agg #[.int .i64 0, .int .i64 0], .int .i64 4]) (by simp [results, Tryd.results34, go_sem]) rfl ⟨rfl, (Below.refl _ _).alloc (Nat.le_refl _) _⟩

theorem one_cell {w w3 : World} (hb : Below (w.alloc (.cells #[.int .i64 0, .int .i64 0] 32)).heap.size (w.alloc (.cells #[.int .i64 0, .int .i64 0] 32)) w3) :
    w3.cell? ⟨w.heap.size, 0, none⟩ = some (.int .i64 0) ∧ w3.cell? ⟨w.heap.size, 1, none⟩ = some (.int .i64 0) ∧ w3.frozen? ⟨w.heap.size, 0, none⟩ = false ∧ w3.frozen? ⟨w.heap.size, 1, none⟩ = false ∧ w.heap.size + 1 ≤ w3.heap.size ∧ Below w.heap.size w w3 := by
  obtain ⟨hc, hf⟩ := bcell hb
  have s := hb.size
  simp at s
  have hw : Below w.heap.size w (w.alloc (.cells #[.int .i64 0, .int .i64 0] 32)) := (Below.refl w.heap.size w).alloc (Nat.le_refl _) _
  refine ⟨?_, ?_, ?_, ?_, by omega, hw.trans (hb.mono (by simp))⟩
  all_goals first | (rw [hc _ _ (by simp)]; simp [go_sem]; done) | (rw [hf _ _ (by simp)]; simp [go_sem]; done)

theorem isDigitsL (a : ByteArray) (l : List UInt8) (h : a.data.toList = l) (w : World) (hs : a.size ≤ 1000) :
    Calls Tryd.prog 41 #[.string a] w fun e w' => e = .returned (.bool (dgs l)) ∧ w' = w := by
  subst h; exact isDigits_any a w hs

theorem head_at {A : ByteArray} {a : List UInt8} (h : A.data.toList = a) (h0 : 0 < A.size) : a.head? = some A[0] := by
  subst h
  rw [List.head?_eq_getElem?]
  exact toList_at A 0 h0

set_option maxHeartbeats 1000000 in
theorem parse_form (s U A H : ByteArray) (a h : List UInt8) (b p : Bool) (w : World) (hs : s.size ≤ 100) (hA : A.data.toList = a) (hH : H.data.toList = h) (lA : A.size + H.size ≤ 100)
    (cp : ∀ wx, Calls Tryd.prog 33 #[.string s, .string ⟨#[45]⟩] wx fun e w' => e = .returned (.tuple #[.string U, .bool b]) ∧ w' = wx)
    (cc : ∀ wx, Calls Tryd.prog 40 #[.string U, .string ⟨#[46]⟩] wx fun e w' => e = .returned (.tuple #[.string A, .string H, .bool p]) ∧ Below wx.heap.size wx w')
    (no : pOk a h p = false) :
    Calls Tryd.prog 34 #[.string s] w fun e w' => e = .returned (.tuple #[.agg #[.int .i64 0, .int .i64 0], .int .i64 2]) ∧ Below w.heap.size w w' := by
  have CP := hide cp
  have CC := hide cc
  have dA := fun wx => isDigitsL A a hA wx (by omega)
  have dH := fun wx => isDigitsL H h hH wx (by omega)
  have hs' : ¬ 100 < (s.size : Int) := by omega
  have hl : a.length = A.size := by rw [← hA]; simp
  clear cp cc
  cases qa : dgs a
  · rw [qa] at dA
    replace dA := hide dA
    replace dH := hide dH
    clear no qa
    go_enter Tryd.func34, Tryd.ntmps34
    go_wp2_with fail
    refine (unhide CP _).mono ?_
    rintro e w1 ⟨rfl, rfl⟩
    go_wp2_with fail
    refine (unhide CC _).mono ?_
    rintro e w2 ⟨rfl, hb⟩
    obtain ⟨t0, t1, f0, f1, hz, hw⟩ := one_cell hb
    clear hb
    go_wp2_with fail
    refine (unhide dA _).mono ?_
    rintro e w3 ⟨rfl, rfl⟩
    go_wp2
    exact bodyPost_ret (v := .tuple #[.agg #[.int .i64 0, .int .i64 0], .int .i64 2]) (by simp [results, Tryd.results34, go_sem, t0, t1]) rfl ⟨rfl, (hw.setCell (by simp) _).setCell (by simp) _⟩
  · rw [qa] at dA
    have hA0 : 0 < A.size := by
      rcases Nat.eq_zero_or_pos A.size with z | z
      · rw [← hl] at z
        rw [List.length_eq_zero_iff.1 z] at qa
        exact absurd qa (by decide)
      · exact z
    have hhd := head_at hA hA0
    replace dA := hide dA
    cases q0 : lead0 a
    · have p1 : p = true := by
        unfold pOk at no
        rw [qa, q0] at no
        cases p
        · simp at no
        · rfl
      have p2 : dgs h = false := by
        unfold pOk at no
        rw [qa, q0, p1] at no
        simpa using no
      rw [p2] at dH
      subst p1
      replace dH := hide dH
      have q1 : ¬ (1 < (A.size : Int)) ∨ (1 < (A.size : Int) ∧ ((A[0].toNat : Int) == 48) = false) := by
        unfold lead0 at q0
        rw [hhd, hl] at q0
        by_cases g : 1 < A.size
        · right
          refine ⟨by omega, ?_⟩
          rw [decide_eq_true g] at q0
          simp only [Bool.true_and, decide_eq_false_iff_not, Option.some.injEq] at q0
          rw [beq_eq_false_iff_ne]
          intro e
          apply q0
          apply UInt8.toNat_inj.1
          have : A[0].toNat = 48 := by omega
          rw [this]; rfl
        · left; omega
      clear no q0 qa hhd p2 hl
      rcases q1 with q1 | ⟨q1, q2⟩
      all_goals
        go_enter Tryd.func34, Tryd.ntmps34
        go_wp2_with fail
        refine (unhide CP _).mono ?_
        rintro e w1 ⟨rfl, rfl⟩
        go_wp2_with fail
        refine (unhide CC _).mono ?_
        rintro e w2 ⟨rfl, hb⟩
        obtain ⟨t0, t1, f0, f1, hz, hw⟩ := one_cell hb
        clear hb
        go_wp2_with fail
        refine (unhide dA _).mono ?_
        rintro e w3 ⟨rfl, rfl⟩
        go_wp2_with fail
        refine (unhide dH _).mono ?_
        rintro e w3 ⟨rfl, rfl⟩
        go_wp2
        exact bodyPost_ret (v := .tuple #[.agg #[.int .i64 0, .int .i64 0], .int .i64 2]) (by simp [results, Tryd.results34, go_sem, t0, t1]) rfl ⟨rfl, (hw.setCell (by simp) _).setCell (by simp) _⟩
    · have q1 : 1 < (A.size : Int) ∧ ((A[0].toNat : Int) == 48) = true := by
        unfold lead0 at q0
        rw [hhd, hl] at q0
        simp at q0
        refine ⟨by omega, ?_⟩
        rw [q0.2]
        rfl
      obtain ⟨q1, q2⟩ := q1
      clear no q0 qa hhd hl
      go_enter Tryd.func34, Tryd.ntmps34
      go_wp2_with fail
      refine (unhide CP _).mono ?_
      rintro e w1 ⟨rfl, rfl⟩
      go_wp2_with fail
      refine (unhide CC _).mono ?_
      rintro e w2 ⟨rfl, hb⟩
      obtain ⟨t0, t1, f0, f1, hz, hw⟩ := one_cell hb
      clear hb
      go_wp2_with fail
      refine (unhide dA _).mono ?_
      rintro e w3 ⟨rfl, rfl⟩
      go_wp2
      exact bodyPost_ret (v := .tuple #[.agg #[.int .i64 0, .int .i64 0], .int .i64 2]) (by simp [results, Tryd.results34, go_sem, t0, t1]) rfl ⟨rfl, (hw.setCell (by simp) _).setCell (by simp) _⟩
end Go.Proofs.YtjjioikgligaoaaDoor
