/- Walks: strings.CutPrefix at a minus, strings.Cut at a point. -/
import Derived.Test.YtnegjbkbfgkkjaaGreatDoorG13
import Derived.Test.YtnegjbkbfgkkjaaGreatDoorG10
import Derived.Shelf.RegionOpenPlain
import Derived.BigCall
import Derived.BigGuard
import Derived.Test.YtnegjbkbfgkkjaaGreatDoorG12
import Derived.Test.YtnegjbkbfgkkjaaGreatDoorG01
namespace Go.Proofs.YtnegjbkbfgkkjaaGreatDoor
open Go.RowKit

theorem cutPrefix_any (s p : ByteArray) (w : World) :
    Calls Tryz.prog 126 #[.string s, .string p] w fun e w' => e = .returned (.tuple #[.string ⟨(Lib.trimPrefix s.data.toList p.data.toList).toArray⟩, .bool (Lib.hasPrefix s.data.toList p.data.toList)]) ∧ w' = w :=
  Any.strings_CutPrefix Tryz.lays103 s p w
theorem index1_any (s : ByteArray) (c : UInt8) (w : World) :
    Calls Tryz.prog 183 #[.string s, .string ⟨#[c]⟩] w fun e w' => e = .returned (.int .i64 (Lib.indexByte s.data.toList c)) ∧ w' = w :=
  Any.stringslite_Index_one Tryz.lays219 s c w

/-- what stands ahead of the first c, what behind it, and whether there is one -/
def cut1 (l : List UInt8) (c : UInt8) : List UInt8 × List UInt8 × Bool :=
  if 0 ≤ Lib.indexByte l c then (l.take (Lib.indexByte l c).toNat, l.drop ((Lib.indexByte l c).toNat + 1), true) else (l, [], false)
theorem indexByte_bd : ∀ (l : List UInt8) (c : UInt8), -1 ≤ Lib.indexByte l c ∧ Lib.indexByte l c < l.length
  | [], c => by simp [Lib.indexByte]
  | b :: l, c => by
    have h := indexByte_bd l c
    rw [Lib.indexByte]
    split
    · simp <;> omega
    · split
      · simp <;> omega
      · simp only [List.length_cons]; omega
theorem cut1_hit {l : List UInt8} {c : UInt8} {i : Nat} (h : Lib.indexByte l c = (i : Int)) : cut1 l c = (l.take i, l.drop (i + 1), true) := by
  unfold cut1; rw [h, if_pos (by omega)]; simp
theorem cut1_miss {l : List UInt8} {c : UInt8} (h : ¬ 0 ≤ Lib.indexByte l c) : cut1 l c = (l, [], false) := by
  unfold cut1; rw [if_neg h]
theorem ext_take (s : ByteArray) (i : Nat) : s.extract 0 i = ⟨(s.data.toList.take i).toArray⟩ := by
  rw [Lib.extract_eq]; simp
theorem ext_drop (s : ByteArray) (i : Nat) : s.extract i s.size = ⟨(s.data.toList.drop i).toArray⟩ := by
  rw [Lib.extract_eq, List.take_of_length_le (by rw [List.length_drop, ← Lib.size_eq]; exact Nat.le_refl _)]

set_option maxHeartbeats 1000000 in
theorem cutIn_any (s : ByteArray) (c : UInt8) (w : World) (hs : s.size ≤ 9223372036854775000) :
    Calls Tryz.prog 169 #[.string s, .string ⟨#[c]⟩] w fun e w' => e = .returned (.tuple #[.string ⟨(cut1 s.data.toList c).1.toArray⟩, .string ⟨(cut1 s.data.toList c).2.1.toArray⟩, .bool (cut1 s.data.toList c).2.2]) ∧ Below w.heap.size w w' := by
  have hb := indexByte_bd s.data.toList c
  rw [← Lib.size_eq] at hb
  have C := fun wx => index1_any s c wx
  by_cases h : 0 ≤ Lib.indexByte s.data.toList c
  · obtain ⟨i, hi⟩ : ∃ i : Nat, Lib.indexByte s.data.toList c = (i : Int) := ⟨(Lib.indexByte s.data.toList c).toNat, by omega⟩
    rw [cut1_hit hi]
    rw [hi] at C hb
    replace C := hide C
    have E1 := hide (ext_take s i)
    have E2 := hide (ext_drop s (i + 1))
    have c2 : (i : Int) ≤ (s.size : Int) := by omega
    have c4 : (i : Int) + 1 ≤ (s.size : Int) := by omega
    have c1 : (0 : Int) ≤ (i : Int) := by omega
    have c3 : (0 : Int) ≤ (i : Int) + 1 := by omega
    clear h hi hb
    go_enter Tryz.func169, Tryz.ntmps169
    go_wp2_with (go_at_call 183; refine (unhide C _).mono ?_; rintro e w' ⟨rfl, rfl⟩)
    go_region
    go_wp2
    go_ret3
    refine ⟨?_, (Below.refl _ _).drew⟩
    rw [← unhide E1, ← unhide E2]
    rfl
  · have hm : Lib.indexByte s.data.toList c = -1 := by omega
    rw [cut1_miss h]
    rw [hm] at C
    replace C := hide C
    clear h hm hb
    go_enter Tryz.func169, Tryz.ntmps169
    go_wp2_with (go_at_call 183; refine (unhide C _).mono ?_; rintro e w' ⟨rfl, rfl⟩)
    go_ret3
    refine ⟨?_, Below.refl _ _⟩
    rw [Lib.mk_data s]
    rfl

set_option maxHeartbeats 1000000 in
theorem cut_any (s : ByteArray) (c : UInt8) (w : World) (hs : s.size ≤ 9223372036854775000) :
    Calls Tryz.prog 157 #[.string s, .string ⟨#[c]⟩] w fun e w' => e = .returned (.tuple #[.string ⟨(cut1 s.data.toList c).1.toArray⟩, .string ⟨(cut1 s.data.toList c).2.1.toArray⟩, .bool (cut1 s.data.toList c).2.2]) ∧ Below w.heap.size w w' := by
  have C := hide (fun wx => cutIn_any s c wx hs)
  generalize cut1 s.data.toList c = q at *
  go_enter Tryz.func157, Tryz.ntmps157
  go_wp2_with (go_at_call 169; refine (unhide C _).mono ?_; rintro e w' ⟨rfl, hb⟩)
  go_ret3
  exact ⟨rfl, hb⟩
end Go.Proofs.YtnegjbkbfgkkjaaGreatDoor

/- Walks: Parse. -/
namespace Go.Proofs.YtnegjbkbfgkkjaaGreatDoor
open Go.RowKit

/-- a text's sign is taken off -/
def pU (l : List UInt8) : List UInt8 := Lib.trimPrefix l [45]
def pB (l : List UInt8) : Bool := Lib.hasPrefix l [45]
/-- a nought ahead of further digits -/
def lead0 (a : List UInt8) : Bool := decide (1 < a.length) && decide (a.head? = some 48)
/-- is it written as a number must be? -/
def pOk (a h : List UInt8) (p : Bool) : Bool := dgs a && !lead0 a && (!p || dgs h)
def nC (B : Bool) (N : Nat) (x : Int) : Int := Dm.fC (Dm.sg B (Dm.nQ N x false)) (Dm.nE N x)
def nX (B : Bool) (N : Nat) (x : Int) : Int := Dm.fE (Dm.sg B (Dm.nQ N x false)) (Dm.nE N x)
def nR (B : Bool) (N : Nat) (x : Int) : Int := Dm.fR (Dm.sg B (Dm.nQ N x false)) (Dm.nE N x)
def vL (l : List UInt8) : Nat := Dm.val (dOf l) l.length
/-- what Parse tells of a text -/
def parseF (l : List UInt8) : Int × Int × Int :=
  if 100 < l.length then (0, 0, 4)
  else if pOk (cut1 (pU l) 46).1 (cut1 (pU l) 46).2.1 (cut1 (pU l) 46).2.2 = true then
    (nC (pB l) (vL ((cut1 (pU l) 46).1 ++ (cut1 (pU l) 46).2.1)) (-((cut1 (pU l) 46).2.1.length : Int)), nX (pB l) (vL ((cut1 (pU l) 46).1 ++ (cut1 (pU l) 46).2.1)) (-((cut1 (pU l) 46).2.1.length : Int)), nR (pB l) (vL ((cut1 (pU l) 46).1 ++ (cut1 (pU l) 46).2.1)) (-((cut1 (pU l) 46).2.1.length : Int)))
  else (0, 0, 2)
def pRet (q : Int × Int × Int) : Ending := .returned (.tuple #[.agg #[.int .i64 q.1, .int .i64 q.2.1], .int .i64 q.2.2])

theorem trim_le (l p : List UInt8) : (Lib.trimPrefix l p).length ≤ l.length := by
  unfold Lib.trimPrefix; split
  · simp
  · exact Nat.le_refl _
theorem cut1_le (l : List UInt8) (c : UInt8) : (cut1 l c).1.length + (cut1 l c).2.1.length ≤ l.length := by
  unfold cut1; split
  · simp; omega
  · simp

set_option maxHeartbeats 400000 in
theorem parse_much (s : ByteArray) (w : World) (h : 100 < s.size) :
    Calls Tryz.prog 127 #[.string s] w fun e w' => e = .returned (.tuple #[.agg #[.int .i64 0, .int .i64 0], .int .i64 4]) ∧ Below w.heap.size w w' := by
  go_enter Tryz.func127, Tryz.ntmps127
  go_wp2
  exact bodyPost_ret (v := .tuple #[.agg #[.int .i64 0, .int .i64 0], .int .i64 4]) (by simp [results, Tryz.results127, go_sem]) rfl ⟨rfl, (Below.refl _ _).alloc (Nat.le_refl _) _⟩

theorem one_cell {w w3 : World} (hb : Below (w.alloc (.cells #[.int .i64 0, .int .i64 0] 78)).heap.size (w.alloc (.cells #[.int .i64 0, .int .i64 0] 78)) w3) :
    w3.cell? ⟨w.heap.size, 0, none⟩ = some (.int .i64 0) ∧ w3.cell? ⟨w.heap.size, 1, none⟩ = some (.int .i64 0) ∧ w3.frozen? ⟨w.heap.size, 0, none⟩ = false ∧ w3.frozen? ⟨w.heap.size, 1, none⟩ = false ∧ w.heap.size + 1 ≤ w3.heap.size ∧ Below w.heap.size w w3 := by
  obtain ⟨hc, hf⟩ := bcell hb
  have s := hb.size
  simp at s
  have hw : Below w.heap.size w (w.alloc (.cells #[.int .i64 0, .int .i64 0] 78)) := (Below.refl w.heap.size w).alloc (Nat.le_refl _) _
  refine ⟨?_, ?_, ?_, ?_, by omega, hw.trans (hb.mono (by simp))⟩
  all_goals first | (rw [hc _ _ (by simp)]; simp [go_sem]; done) | (rw [hf _ _ (by simp)]; simp [go_sem]; done)

theorem isDigitsL (a : ByteArray) (l : List UInt8) (h : a.data.toList = l) (w : World) (hs : a.size ≤ 1000) :
    Calls Tryz.prog 158 #[.string a] w fun e w' => e = .returned (.bool (dgs l)) ∧ w' = w := by
  subst h; exact isDigits_any a w hs

theorem head_at {A : ByteArray} {a : List UInt8} (h : A.data.toList = a) (h0 : 0 < A.size) : a.head? = some A[0] := by
  subst h
  rw [List.head?_eq_getElem?]
  exact toList_at A 0 h0

set_option maxHeartbeats 1000000 in
theorem parse_form (s U A H : ByteArray) (a h : List UInt8) (b p : Bool) (w : World) (hs : s.size ≤ 100) (hA : A.data.toList = a) (hH : H.data.toList = h) (lA : A.size + H.size ≤ 100)
    (cp : ∀ wx, Calls Tryz.prog 126 #[.string s, .string ⟨#[45]⟩] wx fun e w' => e = .returned (.tuple #[.string U, .bool b]) ∧ w' = wx)
    (cc : ∀ wx, Calls Tryz.prog 157 #[.string U, .string ⟨#[46]⟩] wx fun e w' => e = .returned (.tuple #[.string A, .string H, .bool p]) ∧ Below wx.heap.size wx w')
    (no : pOk a h p = false) :
    Calls Tryz.prog 127 #[.string s] w fun e w' => e = .returned (.tuple #[.agg #[.int .i64 0, .int .i64 0], .int .i64 2]) ∧ Below w.heap.size w w' := by
  have CP := hide cp
  have CC := hide cc
  have dA := fun wx => isDigitsL A a hA wx (by omega)
  have dH := fun wx => isDigitsL H h hH wx (by omega)
  have hs' : ¬ 100 < (s.size : Int) := by omega
  have hl : a.length = A.size := by rw [← hA]; simp
  clear cp cc
  cases qa : dgs a
  · rw [qa] at dA
    replace dA := hide dA
    replace dH := hide dH
    clear no qa
    go_enter Tryz.func127, Tryz.ntmps127
    go_wp2_with fail
    refine (unhide CP _).mono ?_
    rintro e w1 ⟨rfl, rfl⟩
    go_wp2_with fail
    refine (unhide CC _).mono ?_
    rintro e w2 ⟨rfl, hb⟩
    obtain ⟨t0, t1, f0, f1, hz, hw⟩ := one_cell hb
    clear hb
    go_wp2_with fail
    refine (unhide dA _).mono ?_
    rintro e w3 ⟨rfl, rfl⟩
    go_wp2
    exact bodyPost_ret (v := .tuple #[.agg #[.int .i64 0, .int .i64 0], .int .i64 2]) (by simp [results, Tryz.results127, go_sem, t0, t1]) rfl ⟨rfl, (hw.setCell (by simp) _).setCell (by simp) _⟩
  · rw [qa] at dA
    have hA0 : 0 < A.size := by
      rcases Nat.eq_zero_or_pos A.size with z | z
      · rw [← hl] at z
        rw [List.length_eq_zero_iff.1 z] at qa
        exact absurd qa (by decide)
      · exact z
    have hhd := head_at hA hA0
    replace dA := hide dA
    cases q0 : lead0 a
    · have p1 : p = true := by
        unfold pOk at no
        rw [qa, q0] at no
        cases p
        · simp at no
        · rfl
      have p2 : dgs h = false := by
        unfold pOk at no
        rw [qa, q0, p1] at no
        simpa using no
      rw [p2] at dH
      subst p1
      replace dH := hide dH
      have q1 : ¬ (1 < (A.size : Int)) ∨ (1 < (A.size : Int) ∧ ((A[0].toNat : Int) == 48) = false) := by
        unfold lead0 at q0
        rw [hhd, hl] at q0
        by_cases g : 1 < A.size
        · right
          refine ⟨by omega, ?_⟩
          rw [decide_eq_true g] at q0
          simp only [Bool.true_and, decide_eq_false_iff_not, Option.some.injEq] at q0
          rw [beq_eq_false_iff_ne]
          intro e
          apply q0
          apply UInt8.toNat_inj.1
          have : A[0].toNat = 48 := by omega
          rw [this]; rfl
        · left; omega
      clear no q0 qa hhd p2 hl
      rcases q1 with q1 | ⟨q1, q2⟩
      all_goals
        go_enter Tryz.func127, Tryz.ntmps127
        go_wp2_with fail
        refine (unhide CP _).mono ?_
        rintro e w1 ⟨rfl, rfl⟩
        go_wp2_with fail
        refine (unhide CC _).mono ?_
        rintro e w2 ⟨rfl, hb⟩
        obtain ⟨t0, t1, f0, f1, hz, hw⟩ := one_cell hb
        clear hb
        go_wp2_with fail
        refine (unhide dA _).mono ?_
        rintro e w3 ⟨rfl, rfl⟩
        go_wp2_with fail
        refine (unhide dH _).mono ?_
        rintro e w3 ⟨rfl, rfl⟩
        go_wp2
        exact bodyPost_ret (v := .tuple #[.agg #[.int .i64 0, .int .i64 0], .int .i64 2]) (by simp [results, Tryz.results127, go_sem, t0, t1]) rfl ⟨rfl, (hw.setCell (by simp) _).setCell (by simp) _⟩
    · have q1 : 1 < (A.size : Int) ∧ ((A[0].toNat : Int) == 48) = true := by
        unfold lead0 at q0
        rw [hhd, hl] at q0
        simp at q0
        refine ⟨by omega, ?_⟩
        rw [q0.2]
        rfl
      obtain ⟨q1, q2⟩ := q1
      clear no q0 qa hhd hl
      go_enter Tryz.func127, Tryz.ntmps127
      go_wp2_with fail
      refine (unhide CP _).mono ?_
      rintro e w1 ⟨rfl, rfl⟩
      go_wp2_with fail
      refine (unhide CC _).mono ?_
      rintro e w2 ⟨rfl, hb⟩
      obtain ⟨t0, t1, f0, f1, hz, hw⟩ := one_cell hb
      clear hb
      go_wp2_with fail
      refine (unhide dA _).mono ?_
      rintro e w3 ⟨rfl, rfl⟩
      go_wp2
      exact bodyPost_ret (v := .tuple #[.agg #[.int .i64 0, .int .i64 0], .int .i64 2]) (by simp [results, Tryz.results127, go_sem, t0, t1]) rfl ⟨rfl, (hw.setCell (by simp) _).setCell (by simp) _⟩
end Go.Proofs.YtnegjbkbfgkkjaaGreatDoor

/- Walks: Parse, whole. -/
namespace Go.Proofs.YtnegjbkbfgkkjaaGreatDoor
open Go.RowKit

theorem app_data (A H : ByteArray) : (A ++ H).data.toList = A.data.toList ++ H.data.toList := by simp
theorem ok_parts {a h : List UInt8} {p : Bool} (hp : p = false → h = []) (ok : pOk a h p = true) : dgs a = true ∧ lead0 a = false ∧ (p = true → dgs h = true) ∧ (a ++ h).all isDg = true := by
  unfold pOk at ok
  simp only [Bool.and_eq_true, Bool.not_eq_true', Bool.or_eq_true] at ok
  obtain ⟨⟨o1, o2⟩, o3⟩ := ok
  refine ⟨o1, o2, fun e => ?_, ?_⟩
  · rcases o3 with g | g
    · rw [e] at g; cases g
    · exact g
  · rw [List.all_append, Bool.and_eq_true]
    refine ⟨?_, ?_⟩
    · unfold dgs at o1; rw [Bool.and_eq_true] at o1; exact o1.1
    · cases p
      · rw [hp rfl]; rfl
      · rcases o3 with g | g
        · cases g
        · unfold dgs at g; rw [Bool.and_eq_true] at g; exact g.1

set_option maxHeartbeats 2000000 in
theorem parse_ok (s U A H : ByteArray) (a h : List UInt8) (b p : Bool) (w : World) (hs : s.size ≤ 100) (hA : A.data.toList = a) (hH : H.data.toList = h) (lA : A.size + H.size ≤ 100) (hp : p = false → h = [])
    (cp : ∀ wx, Calls Tryz.prog 126 #[.string s, .string ⟨#[45]⟩] wx fun e w' => e = .returned (.tuple #[.string U, .bool b]) ∧ w' = wx)
    (cc : ∀ wx, Calls Tryz.prog 157 #[.string U, .string ⟨#[46]⟩] wx fun e w' => e = .returned (.tuple #[.string A, .string H, .bool p]) ∧ Below wx.heap.size wx w')
    (ok : pOk a h p = true) :
    Calls Tryz.prog 127 #[.string s] w fun e w' => e = pRet (nC b (vL (a ++ h)) (-(h.length : Int)), nX b (vL (a ++ h)) (-(h.length : Int)), nR b (vL (a ++ h)) (-(h.length : Int))) ∧ Below w.heap.size w w' := by
  obtain ⟨o1, o2, o3, o4⟩ := ok_parts hp ok
  have CP := hide cp
  have CC := hide cc
  have hs' : ¬ 100 < (s.size : Int) := by omega
  have hl : a.length = A.size := by rw [← hA]; simp
  have hlh : h.length = H.size := by rw [← hH]; simp
  have happ : (A ++ H).data.toList = a ++ h := by rw [app_data, hA, hH]
  have hsz : (A ++ H).size = A.size + H.size := by simp
  have DG := hide (fun wx => digitsOf_any (A ++ H) wx (by omega) (by rw [happ]; exact o4))
  have NE := hide (fun (wx : World) (g : Nat) (hD : DS wx g 0 (A ++ H).size (dOf (A ++ H).data.toList)) => dnearest_any b false g 0 (A ++ H).size (A ++ H).size (-(H.size : Int)) (dOf (A ++ H).data.toList) wx hD (Nat.le_refl _) (by omega) (by omega) (by omega))
  have HV : Hid (Dm.val (dOf (A ++ H).data.toList) (A ++ H).size = vL (a ++ h)) := by
    refine hide ?_
    unfold vL
    rw [happ, hsz, List.length_append, hl, hlh]
  rw [unhide HV] at NE
  have dA := fun wx => isDigitsL A a hA wx (by omega)
  have dH := fun wx => isDigitsL H h hH wx (by omega)
  rw [o1] at dA
  replace dA := hide dA
  have hA0 : 0 < A.size := by
    rcases Nat.eq_zero_or_pos A.size with z | z
    · rw [← hl] at z
      rw [List.length_eq_zero_iff.1 z] at o1
      exact absurd o1 (by decide)
    · exact z
  have hhd := head_at hA hA0
  have q1 : ¬ (1 < (A.size : Int)) ∨ (1 < (A.size : Int) ∧ ((A[0].toNat : Int) == 48) = false) := by
    unfold lead0 at o2
    rw [hhd, hl] at o2
    by_cases g : 1 < A.size
    · right
      refine ⟨by omega, ?_⟩
      rw [decide_eq_true g] at o2
      simp only [Bool.true_and, decide_eq_false_iff_not, Option.some.injEq] at o2
      rw [beq_eq_false_iff_ne]
      intro e
      apply o2
      apply UInt8.toNat_inj.1
      have : A[0].toNat = 48 := by omega
      rw [this]; rfl
    · left; omega
  have HL : Hid ((h.length : Int) = (H.size : Int)) := hide (by omega)
  have hHs : H.size ≤ 100 := by omega
  generalize hK : (A ++ H) = K at *
  have HK := hide hK
  have hKs : K.size ≤ 100 := by omega
  clear cp cc ok hp o1 o2 o4 hhd hlh hl happ hsz hA hH hK
  generalize vL (a ++ h) = N at *
  cases p
  · clear o3 dH
    rcases q1 with q1 | ⟨q1, q2⟩
    all_goals
      go_enter Tryz.func127, Tryz.ntmps127
      go_wp2_with fail
      refine (unhide CP _).mono ?_
      rintro e w1 ⟨rfl, rfl⟩
      go_wp2_with fail
      refine (unhide CC _).mono ?_
      rintro e w2 ⟨rfl, hb⟩
      go_wp2_with fail
      refine (unhide dA _).mono ?_
      rintro e w3 ⟨rfl, rfl⟩
      go_wp2_with fail
      rw [unhide HK]
      refine (unhide DG _).mono ?_
      rintro e w4 ⟨rfl, hD, hb2⟩
      have HD := hide hD
      have HB := hide (hb.trans (hb2.mono hb.size))
      clear hD hb hb2
      go_wp2_with fail
      refine (unhide NE _ _ (unhide HD)).mono ?_
      rintro e w5 ⟨rfl, hb3⟩
      obtain ⟨t0, t1, f0, f1, hz, hw⟩ := one_cell ((unhide HB).trans (hb3.mono (unhide HB).size))
      clear hb3 HB HD
      go_wp2
      refine bodyPost_ret (v := .tuple #[.agg #[.int .i64 (nC b N (-(H.size : Int))), .int .i64 (nX b N (-(H.size : Int)))], .int .i64 (nR b N (-(H.size : Int)))]) (by simp [results, Tryz.results127, go_sem, t0, t1, nC, nX, nR]) rfl ⟨?_, (hw.setCell (by simp) _).setCell (by simp) _⟩
      rw [unhide HL]
      rfl
  · rw [o3 rfl] at dH
    replace dH := hide dH
    clear o3
    rcases q1 with q1 | ⟨q1, q2⟩
    all_goals
      go_enter Tryz.func127, Tryz.ntmps127
      go_wp2_with fail
      refine (unhide CP _).mono ?_
      rintro e w1 ⟨rfl, rfl⟩
      go_wp2_with fail
      refine (unhide CC _).mono ?_
      rintro e w2 ⟨rfl, hb⟩
      go_wp2_with fail
      refine (unhide dA _).mono ?_
      rintro e w3 ⟨rfl, rfl⟩
      go_wp2_with fail
      refine (unhide dH _).mono ?_
      rintro e w3 ⟨rfl, rfl⟩
      go_wp2_with fail
      rw [unhide HK]
      refine (unhide DG _).mono ?_
      rintro e w4 ⟨rfl, hD, hb2⟩
      have HD := hide hD
      have HB := hide (hb.trans (hb2.mono hb.size))
      clear hD hb hb2
      go_wp2_with fail
      refine (unhide NE _ _ (unhide HD)).mono ?_
      rintro e w5 ⟨rfl, hb3⟩
      obtain ⟨t0, t1, f0, f1, hz, hw⟩ := one_cell ((unhide HB).trans (hb3.mono (unhide HB).size))
      clear hb3 HB HD
      go_wp2
      refine bodyPost_ret (v := .tuple #[.agg #[.int .i64 (nC b N (-(H.size : Int))), .int .i64 (nX b N (-(H.size : Int)))], .int .i64 (nR b N (-(H.size : Int)))]) (by simp [results, Tryz.results127, go_sem, t0, t1, nC, nX, nR]) rfl ⟨?_, (hw.setCell (by simp) _).setCell (by simp) _⟩
      rw [unhide HL]
      rfl

theorem cut1_none (l : List UInt8) (c : UInt8) : (cut1 l c).2.2 = false → (cut1 l c).2.1 = [] := by
  unfold cut1; split
  · intro h; cases h
  · intro _; rfl

theorem parse_any (s : ByteArray) (w : World) (hs : s.size ≤ 9223372036854775807) :
    Calls Tryz.prog 127 #[.string s] w fun e w' => e = pRet (parseF s.data.toList) ∧ Below w.heap.size w w' := by
  have hl : s.data.toList.length = s.size := by simp
  by_cases h : 100 < s.size
  · refine (parse_much s w h).mono ?_
    rintro e w' ⟨rfl, hb⟩
    refine ⟨?_, hb⟩
    unfold parseF
    rw [if_pos (by omega)]
    rfl
  · have hU := trim_le s.data.toList [45]
    have hc := cut1_le (pU s.data.toList) 46
    have hUs : (⟨(pU s.data.toList).toArray⟩ : ByteArray).size = (pU s.data.toList).length := by simp [ByteArray.size]
    have cp : ∀ wx, Calls Tryz.prog 126 #[.string s, .string ⟨#[45]⟩] wx fun e w' => e = .returned (.tuple #[.string ⟨(pU s.data.toList).toArray⟩, .bool (pB s.data.toList)]) ∧ w' = wx := fun wx => cutPrefix_any s ⟨#[45]⟩ wx
    have cc : ∀ wx, Calls Tryz.prog 157 #[.string ⟨(pU s.data.toList).toArray⟩, .string ⟨#[46]⟩] wx fun e w' => e = .returned (.tuple #[.string ⟨(cut1 (pU s.data.toList) 46).1.toArray⟩, .string ⟨(cut1 (pU s.data.toList) 46).2.1.toArray⟩, .bool (cut1 (pU s.data.toList) 46).2.2]) ∧ Below wx.heap.size wx w' :=
      fun wx => cut_any ⟨(pU s.data.toList).toArray⟩ 46 wx (by have : (pU s.data.toList).length ≤ s.data.toList.length := hU; omega)
    have la : (⟨(cut1 (pU s.data.toList) 46).1.toArray⟩ : ByteArray).size + (⟨(cut1 (pU s.data.toList) 46).2.1.toArray⟩ : ByteArray).size ≤ 100 := by
      have : (pU s.data.toList).length ≤ s.data.toList.length := hU
      simp [ByteArray.size] at hc ⊢
      omega
    unfold parseF
    rw [if_neg (by omega)]
    cases ok : pOk (cut1 (pU s.data.toList) 46).1 (cut1 (pU s.data.toList) 46).2.1 (cut1 (pU s.data.toList) 46).2.2
    · rw [if_neg (by decide)]
      exact parse_form s _ _ _ _ _ _ _ w (by omega) rfl rfl la cp cc ok
    · rw [if_pos rfl]
      exact parse_ok s _ _ _ _ _ _ _ w (by omega) rfl rfl la (cut1_none _ _) cp cc ok
end Go.Proofs.YtnegjbkbfgkkjaaGreatDoor
