/- Walks: first. -/
import Derived.Test.YtdgojpjmhalilaaGreatDoorG32
namespace Go.Proofs.YtdgojpjmhalilaaGreatDoor
open Go.RowKit

/-- the token with which l begins -/
def firstF (l : List UInt8) : FR :=
  if l.getD 0 0 = 34 then ftF l
  else if 0 < leadL gDig l.length 0 l then fnF l (leadL gDig l.length 0 l)
  else if 0 < leadL gWord l.length 0 l then ⟨1, l.take (leadL gWord l.length 0 l), 0, 0, leadL gWord l.length 0 l, 0, 0⟩
  else signF signsL l

set_option maxHeartbeats 2000000 in
theorem first_any (s : ByteArray) (w : World) (hs : s.size ≤ 4000) (h1 : 1 ≤ s.size) (hL : LT w) (hS : SG w) :
    Calls Tryz.prog 61 #[.string s] w fun e w' => e = frV (firstF s.data.toList) ∧ Below w.heap.size w w' := by
  have E : firstF s.data.toList = if s.data.toList.getD 0 0 = 34 then ftF s.data.toList else if 0 < leadL gDig s.size 0 s.data.toList then fnF s.data.toList (leadL gDig s.size 0 s.data.toList) else if 0 < leadL gWord s.size 0 s.data.toList then ⟨1, s.data.toList.take (leadL gWord s.size 0 s.data.toList), 0, 0, leadL gWord s.size 0 s.data.toList, 0, 0⟩ else signF signsL s.data.toList := by
    unfold firstF; rw [← Lib.size_eq]
  rw [getD_at s 0 h1] at E
  have B0 : Below w.heap.size w ((w.alloc (.cells #[.int .i64 0, .string ⟨#[]⟩, .int .i64 0, .int .i64 0, .int .i64 0] 94)).alloc (.cells #[.int .i64 0, .int .i64 0] 90)) := ((Below.refl _ _).alloc (Nat.le_refl _) _).alloc (by simp) _
  have hL0 := hide (hL.on B0)
  have hS0 := hide hS
  have dD := leadL_le gDig s.size 0 s.data.toList
  have dW := leadL_le gWord s.size 0 s.data.toList
  rw [← Lib.size_eq] at dD dW
  clear hL hS B0
  by_cases h34 : s[0].toNat = 34
  · rw [if_pos (show s[0] = 34 from (u8_eq _ 34 (by omega)).2 h34)] at E
    have C := hide (fun wx => firstText_any s wx hs h1)
    generalize ftF s.data.toList = r at *
    obtain ⟨k, t, c, x, n, e, a⟩ := r
    simp only [frV] at C
    have HE := hide E
    have h34' : ((s[0].toNat : Int) == 34) = true := by simp; omega
    clear E h34 dD dW hL0 hS0
    go_enter Tryz.func61, Tryz.ntmps61
    go_wp2_with fail
    refine (unhide C _).mono ?_
    rintro e' w1 ⟨rfl, hb⟩
    obtain ⟨R4, hw⟩ := three_below hb
    clear hb
    obtain ⟨t0, t1, t2, t3, t4, t5, t6⟩ := R4.tell
    obtain ⟨f0, f1, f2, f3, f4, f5, f6⟩ := R4.thaw
    have lb := R4.sz
    clear R4
    go_wp2
    exact bodyPost_ret (v := .tuple #[.agg #[.int .i64 k, .string ⟨t.toArray⟩, .int .i64 c, .int .i64 x, .int .i64 0], .int .i64 (n : Int), .agg #[.int .i64 e, .int .i64 (a : Int)]]) (by simp [results, Tryz.results61, go_sem, t0, t1, t2, t3, t4, t5, t6]) rfl ⟨by rw [unhide HE]; rfl, below_res hw (Nat.le_refl _)⟩
  have h34' : ((s[0].toNat : Int) == 34) = false := by simp; omega
  rw [if_neg (show ¬ s[0] = 34 from fun a => h34 ((u8_eq _ 34 (by omega)).1 a))] at E
  have LD := hide (fun wx => leadOfDigits_any s wx hs)
  clear h34
  generalize leadL gDig s.size 0 s.data.toList = nd at *
  by_cases hd : 0 < nd
  · rw [if_pos hd] at E
    have C := hide (fun wx => firstNumber_any s nd wx hs (by omega))
    have hd' : (0 : Int) < (nd : Int) := by omega
    generalize fnF s.data.toList nd = r at *
    obtain ⟨k, t, c, x, n, e, a⟩ := r
    simp only [frV] at C
    have HE := hide E
    clear E hd dW hL0 hS0
    go_enter Tryz.func61, Tryz.ntmps61
    go_wp2_with fail
    refine (unhide LD _).mono ?_
    rintro e' w1 ⟨rfl, hb⟩
    obtain ⟨r1, r2⟩ := three_below hb
    have R := hide r1
    have HW := hide r2
    have HB := hide hb
    clear r1 r2 hb
    go_wp2_with fail
    refine (unhide C _).mono ?_
    rintro e' w2 ⟨rfl, hb⟩
    have R4 := (unhide R).keep hb (unhide R).sz
    have hw := (unhide HW).trans (hb.mono (unhide HW).size)
    clear hb
    obtain ⟨t0, t1, t2, t3, t4, t5, t6⟩ := R4.tell
    obtain ⟨f0, f1, f2, f3, f4, f5, f6⟩ := R4.thaw
    have lb := R4.sz
    clear R4
    go_wp2
    exact bodyPost_ret (v := .tuple #[.agg #[.int .i64 k, .string ⟨t.toArray⟩, .int .i64 c, .int .i64 x, .int .i64 0], .int .i64 (n : Int), .agg #[.int .i64 e, .int .i64 (a : Int)]]) (by simp [results, Tryz.results61, go_sem, t0, t1, t2, t3, t4, t5, t6]) rfl ⟨by rw [unhide HE]; rfl, below_res hw (Nat.le_refl _)⟩
  rw [if_neg hd] at E
  have hd' : ¬ (0 : Int) < (nd : Int) := by omega
  clear hd
  have LW := hide (fun wx hl => leadOfWord_any s wx hs hl)
  generalize leadL gWord s.size 0 s.data.toList = nw at *
  by_cases hw' : 0 < nw
  · rw [if_pos hw'] at E
    have hwI : (0 : Int) < (nw : Int) := by omega
    have hwJ : (nw : Int) ≤ (s.size : Int) := by omega
    obtain ⟨hX, hXs⟩ := num_tail s nw (by omega)
    obtain ⟨X, hXX⟩ : ∃ X : ByteArray, X = s.extract 0 nw := ⟨_, rfl⟩
    have CL := hide (fun wx => clone_any X wx (by rw [hXX, hXs]; omega))
    have HX : Hid (X = ⟨(s.data.toList.take nw).toArray⟩) := hide (hXX.trans hX)
    have HXX := hide hXX.symm
    have HE := hide E
    clear E hw' hX hXs hXX hS0
    go_enter Tryz.func61, Tryz.ntmps61
    go_wp2_with fail
    refine (unhide LD _).mono ?_
    rintro e' w1 ⟨rfl, hb⟩
    obtain ⟨r1, r2⟩ := three_below hb
    have R := hide r1
    have HW := hide r2
    have HB := hide hb
    clear r1 r2 hb
    go_wp2_with fail
    refine (unhide LW _ ?_).mono ?_
    · exact (unhide hL0).on (unhide HB)
    rintro e' w2 ⟨rfl, hb⟩
    replace R := hide ((unhide R).keep hb (unhide R).sz)
    have HB2 := hide hb
    replace HW := hide ((unhide HW).trans (hb.mono (unhide HW).size))
    clear hb
    go_wp2_with fail
    rw [unhide HXX]
    refine (unhide CL _).mono ?_
    rintro e' w3 ⟨rfl, hb⟩
    have R4 := (unhide R).keep hb (unhide R).sz
    have hw := (unhide HW).trans (hb.mono (unhide HW).size)
    clear hb
    obtain ⟨t0, t1, t2, t3, t4, t5, t6⟩ := R4.tell
    obtain ⟨f0, f1, f2, f3, f4, f5, f6⟩ := R4.thaw
    have lb := R4.sz
    clear R4
    go_wp2
    exact bodyPost_ret (v := .tuple #[.agg #[.int .i64 1, .string X, .int .i64 0, .int .i64 0, .int .i64 0], .int .i64 (nw : Int), .agg #[.int .i64 0, .int .i64 0]]) (by simp [results, Tryz.results61, go_sem, t0, t1, t2, t3, t4, t5, t6]) rfl ⟨by rw [unhide HE, unhide HX]; rfl, below_res hw (Nat.le_refl _)⟩
  · rw [if_neg hw'] at E
    have hwI : ¬ (0 : Int) < (nw : Int) := by omega
    have C := hide (fun wx hl => firstSign_any s wx hl)
    generalize signF signsL s.data.toList = r at *
    obtain ⟨k, t, c, x, n, e, a⟩ := r
    simp only [frV] at C
    have HE := hide E
    clear E hw'
    go_enter Tryz.func61, Tryz.ntmps61
    go_wp2_with fail
    refine (unhide LD _).mono ?_
    rintro e' w1 ⟨rfl, hb⟩
    obtain ⟨r1, r2⟩ := three_below hb
    have R := hide r1
    have HW := hide r2
    have HB := hide hb
    clear r1 r2 hb
    go_wp2_with fail
    refine (unhide LW _ ?_).mono ?_
    · exact (unhide hL0).on (unhide HB)
    rintro e' w2 ⟨rfl, hb⟩
    replace R := hide ((unhide R).keep hb (unhide R).sz)
    have HB2 := hide hb
    replace HW := hide ((unhide HW).trans (hb.mono (unhide HW).size))
    clear hb
    go_wp2_with fail
    refine (unhide C _ ?_).mono ?_
    · exact (unhide hS0).on (unhide HW)
    rintro e' w3 ⟨rfl, hb⟩
    have R4 := (unhide R).keep hb (unhide R).sz
    have hw := (unhide HW).trans (hb.mono (unhide HW).size)
    clear hb
    obtain ⟨t0, t1, t2, t3, t4, t5, t6⟩ := R4.tell
    obtain ⟨f0, f1, f2, f3, f4, f5, f6⟩ := R4.thaw
    have lb := R4.sz
    clear R4
    go_wp2
    exact bodyPost_ret (v := .tuple #[.agg #[.int .i64 k, .string ⟨t.toArray⟩, .int .i64 c, .int .i64 x, .int .i64 0], .int .i64 (n : Int), .agg #[.int .i64 e, .int .i64 (a : Int)]]) (by simp [results, Tryz.results61, go_sem, t0, t1, t2, t3, t4, t5, t6]) rfl ⟨by rw [unhide HE]; rfl, below_res hw (Nat.le_refl _)⟩
end Go.Proofs.YtdgojpjmhalilaaGreatDoor
