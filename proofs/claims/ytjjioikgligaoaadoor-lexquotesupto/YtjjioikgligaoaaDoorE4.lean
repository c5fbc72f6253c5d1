/- Walks: Parse, whole. -/
import Derived.Test.YtjjioikgligaoaaDoorE3
namespace Go.Proofs.YtjjioikgligaoaaDoor
open Go.RowKit

theorem app_data (A H : ByteArray) : (A ++ H).data.toList = A.data.toList ++ H.data.toList := by simp
theorem ok_parts {a h : List UInt8} {p : Bool} (hp : p = false → h = []) (ok : pOk a h p = true) : dgs a = true ∧ lead0 a = false ∧ (p = true → dgs h = true) ∧ (a ++ h).all isDg = true := by
  unfold pOk at ok
  simp only [Bool.and_eq_true, Bool.not_eq_true', Bool.or_eq_true] at ok
  obtain ⟨⟨o1, o2⟩, o3⟩ := ok
  refine ⟨o1, o2, fun e => ?_, ?_⟩
  · rcases o3 with g | g
    · rw [e] at g; cases g
    · exact g
  · rw [List.all_append, Bool.and_eq_true]
    refine ⟨?_, ?_⟩
    · unfold dgs at o1; rw [Bool.and_eq_true] at o1; exact o1.1
    · cases p
      · rw [hp rfl]; rfl
      · rcases o3 with g | g
        · cases g
        · unfold dgs at g; rw [Bool.and_eq_true] at g; exact g.1

set_option maxHeartbeats 2000000 in
theorem parse_ok (s U A H : ByteArray) (a h : List UInt8) (b p : Bool) (w : World) (hs : s.size ≤ 100) (hA : A.data.toList = a) (hH : H.data.toList = h) (lA : A.size + H.size ≤ 100) (hp : p = false → h = [])
    (cp : ∀ wx, Calls Tryd.prog 33 #[.string s, .string ⟨#[45]⟩] wx fun e w' => e = .returned (.tuple #[.string U, .bool b]) ∧ w' = wx)
    (cc : ∀ wx, Calls Tryd.prog 40 #[.string U, .string ⟨#[46]⟩] wx fun e w' => e = .returned (.tuple #[.string A, .string H, .bool p]) ∧ Below wx.heap.size wx w')
    (ok : pOk a h p = true) :
    Calls Tryd.prog 34 #[.string s] w fun e w' => e = pRet (nC b (vL (a ++ h)) (-(h.length : Int)), nX b (vL (a ++ h)) (-(h.length : Int)), nR b (vL (a ++ h)) (-(h.length : Int))) ∧ Below w.heap.size w w' := by
  obtain ⟨o1, o2, o3, o4⟩ := ok_parts hp ok
  have CP := hide cp
  have CC := hide cc
  have hs' : ¬ 100 < (s.size : Int) := by omega
  have hl : a.length = A.size := by rw [← hA]; simp
  have hlh : h.length = H.size := by rw [← hH]; simp
  have happ : (A ++ H).data.toList = a ++ h := by rw [app_data, hA, hH]
  have hsz : (A ++ H).size = A.size + H.size := by simp
  have DG := hide (fun wx => digitsOf_any (A ++ H) wx (by omega) (by rw [happ]; exact o4))
  have NE := hide (fun (wx : World) (g : Nat) (hD : DS wx g 0 (A ++ H).size (dOf (A ++ H).data.toList)) => nearest_any b false g 0 (A ++ H).size (A ++ H).size (-(H.size : Int)) (dOf (A ++ H).data.toList) wx hD (Nat.le_refl _) (by omega) (by omega) (by omega))
  have HV : Hid (Dm.val (dOf (A ++ H).data.toList) (A ++ H).size = vL (a ++ h)) := by
    refine hide ?_
    unfold vL
    rw [happ, hsz, List.length_append, hl, hlh]
  rw [unhide HV] at NE
  have dA := fun wx => isDigitsL A a hA wx (by omega)
  have dH := fun wx => isDigitsL H h hH wx (by omega)
  rw [o1] at dA
  replace dA := hide dA
  have hA0 : 0 < A.size := by
    rcases Nat.eq_zero_or_pos A.size with z | z
    · rw [← hl] at z
      rw [List.length_eq_zero_iff.1 z] at o1
      exact absurd o1 (by decide)
    · exact z
  have hhd := head_at hA hA0
  have q1 : ¬ (1 < (A.size : Int)) ∨ (1 < (A.size : Int) ∧ ((A[0].toNat : Int) == 48) = false) := by
    unfold lead0 at o2
    rw [hhd, hl] at o2
    by_cases g : 1 < A.size
    · right
      refine ⟨by omega, ?_⟩
      rw [decide_eq_true g] at o2
      simp only [Bool.true_and, decide_eq_false_iff_not, Option.some.injEq] at o2
      rw [beq_eq_false_iff_ne]
      intro e
      apply o2
      apply UInt8.toNat_inj.1
      have : A[0].toNat = 48 := by omega
      rw [this]; rfl
    · left; omega
  have HL : Hid ((h.length : Int) = (H.size : Int)) := hide (by omega)
  have hHs : H.size ≤ 100 := by omega
  generalize hK : (A ++ H) = K at *
  have HK := hide hK
  have hKs : K.size ≤ 100 := by omega
  clear cp cc ok hp o1 o2 o4 hhd hlh hl happ hsz hA hH hK
  generalize vL (a ++ h) = N at *
  cases p
  · clear o3 dH
    rcases q1 with q1 | ⟨q1, q2⟩
    all_goals
      go_enter Tryd.func34, Tryd.ntmps34
      go_wp2_with fail
      refine (unhide CP _).mono ?_
      rintro e w1 ⟨rfl, rfl⟩
      go_wp2_with fail
      refine (unhide CC _).mono ?_
      rintro e w2 ⟨rfl, hb⟩
      go_wp2_with fail
      refine (unhide dA _).mono ?_
      rintro e w3 ⟨rfl, rfl⟩
      go_wp2_with fail
      rw [unhide HK]
      refine (unhide DG _).mono ?_
      rintro e w4 ⟨rfl, hD, hb2⟩
      have HD := hide hD
      have HB := hide (hb.trans (hb2.mono hb.size))
      clear hD hb hb2
      go_wp2_with fail
      refine (unhide NE _ _ (unhide HD)).mono ?_
      rintro e w5 ⟨rfl, hb3⟩
      obtain ⟨t0, t1, f0, f1, hz, hw⟩ := one_cell ((unhide HB).trans (hb3.mono (unhide HB).size))
      clear hb3 HB HD
      go_wp2
      refine bodyPost_ret (v := .tuple #[.agg #[.int .i64 (nC b N (-(H.size : Int))), .int .i64 (nX b N (-(H.size : Int)))], .int .i64 (nR b N (-(H.size : Int)))]) (by simp [results, Tryd.results34, go_sem, t0, t1, nC, nX, nR]) rfl ⟨?_, (hw.setCell (by simp) _).setCell (by simp) _⟩
      rw [unhide HL]
      rfl
  · rw [o3 rfl] at dH
    replace dH := hide dH
    clear o3
    rcases q1 with q1 | ⟨q1, q2⟩
    all_goals
      go_enter Tryd.func34, Tryd.ntmps34
      go_wp2_with fail
      refine (unhide CP _).mono ?_
      rintro e w1 ⟨rfl, rfl⟩
      go_wp2_with fail
      refine (unhide CC _).mono ?_
      rintro e w2 ⟨rfl, hb⟩
      go_wp2_with fail
      refine (unhide dA _).mono ?_
      rintro e w3 ⟨rfl, rfl⟩
      go_wp2_with fail
      refine (unhide dH _).mono ?_
      rintro e w3 ⟨rfl, rfl⟩
      go_wp2_with fail
      rw [unhide HK]
      refine (unhide DG _).mono ?_
      rintro e w4 ⟨rfl, hD, hb2⟩
      have HD := hide hD
      have HB := hide (hb.trans (hb2.mono hb.size))
      clear hD hb hb2
      go_wp2_with fail
      refine (unhide NE _ _ (unhide HD)).mono ?_
      rintro e w5 ⟨rfl, hb3⟩
      obtain ⟨t0, t1, f0, f1, hz, hw⟩ := one_cell ((unhide HB).trans (hb3.mono (unhide HB).size))
      clear hb3 HB HD
      go_wp2
      refine bodyPost_ret (v := .tuple #[.agg #[.int .i64 (nC b N (-(H.size : Int))), .int .i64 (nX b N (-(H.size : Int)))], .int .i64 (nR b N (-(H.size : Int)))]) (by simp [results, Tryd.results34, go_sem, t0, t1, nC, nX, nR]) rfl ⟨?_, (hw.setCell (by simp) _).setCell (by simp) _⟩
      rw [unhide HL]
      rfl

theorem cut1_none (l : List UInt8) (c : UInt8) : (cut1 l c).2.2 = false → (cut1 l c).2.1 = [] := by
  unfold cut1; split
  · intro h; cases h
  · intro _; rfl

theorem parse_any (s : ByteArray) (w : World) (hs : s.size ≤ 9223372036854775807) :
    Calls Tryd.prog 34 #[.string s] w fun e w' => e = pRet (parseF s.data.toList) ∧ Below w.heap.size w w' := by
  have hl : s.data.toList.length = s.size := by simp
  by_cases h : 100 < s.size
  · refine (parse_much s w h).mono ?_
    rintro e w' ⟨rfl, hb⟩
    refine ⟨?_, hb⟩
    unfold parseF
    rw [if_pos (by omega)]
    rfl
  · have hU := trim_le s.data.toList [45]
    have hc := cut1_le (pU s.data.toList) 46
    have hUs : (⟨(pU s.data.toList).toArray⟩ : ByteArray).size = (pU s.data.toList).length := by simp [ByteArray.size]
    have cp : ∀ wx, Calls Tryd.prog 33 #[.string s, .string ⟨#[45]⟩] wx fun e w' => e = .returned (.tuple #[.string ⟨(pU s.data.toList).toArray⟩, .bool (pB s.data.toList)]) ∧ w' = wx := fun wx => cutPrefix_any s ⟨#[45]⟩ wx
    have cc : ∀ wx, Calls Tryd.prog 40 #[.string ⟨(pU s.data.toList).toArray⟩, .string ⟨#[46]⟩] wx fun e w' => e = .returned (.tuple #[.string ⟨(cut1 (pU s.data.toList) 46).1.toArray⟩, .string ⟨(cut1 (pU s.data.toList) 46).2.1.toArray⟩, .bool (cut1 (pU s.data.toList) 46).2.2]) ∧ Below wx.heap.size wx w' :=
      fun wx => cut_any ⟨(pU s.data.toList).toArray⟩ 46 wx (by have : (pU s.data.toList).length ≤ s.data.toList.length := hU; omega)
    have la : (⟨(cut1 (pU s.data.toList) 46).1.toArray⟩ : ByteArray).size + (⟨(cut1 (pU s.data.toList) 46).2.1.toArray⟩ : ByteArray).size ≤ 100 := by
      have : (pU s.data.toList).length ≤ s.data.toList.length := hU
      simp [ByteArray.size] at hc ⊢
      omega
    unfold parseF
    rw [if_neg (by omega)]
    cases ok : pOk (cut1 (pU s.data.toList) 46).1 (cut1 (pU s.data.toList) 46).2.1 (cut1 (pU s.data.toList) 46).2.2
    · rw [if_neg (by decide)]
      exact parse_form s _ _ _ _ _ _ _ w (by omega) rfl rfl la cp cc ok
    · rw [if_pos rfl]
      exact parse_ok s _ _ _ _ _ _ _ w (by omega) rfl rfl la (cut1_none _ _) cp cc ok
end Go.Proofs.YtjjioikgligaoaaDoor
