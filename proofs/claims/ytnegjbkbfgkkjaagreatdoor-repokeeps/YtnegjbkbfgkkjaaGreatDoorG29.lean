/- Walks: firstNumber. -/
import Derived.Test.YtnegjbkbfgkkjaaGreatDoorG28
namespace Go.Proofs.YtnegjbkbfgkkjaaGreatDoor
open Go.RowKit

/-- how far a number goes whose digits ahead of the point are n -/
def numEnd (l : List UInt8) (n : Nat) : Nat :=
  if Lib.hasPrefix (l.drop n) [46] = true ∧ 0 < leadL gDig (Lib.trimPrefix (l.drop n) [46]).length 0 (Lib.trimPrefix (l.drop n) [46]) then n + (1 + leadL gDig (Lib.trimPrefix (l.drop n) [46]).length 0 (Lib.trimPrefix (l.drop n) [46])) else n
def fnF (l : List UInt8) (n : Nat) : FR :=
  if (parseF (l.take (numEnd l n))).2.2 = 0 then ⟨2, l.take (numEnd l n), (parseF (l.take (numEnd l n))).1, (parseF (l.take (numEnd l n))).2.1, numEnd l n, 0, 0⟩ else ⟨0, [], 0, 0, 0, (parseF (l.take (numEnd l n))).2.2, 0⟩
theorem leadL_le (G : Nat → Nat → Bool) : ∀ (f pos : Nat) (l : List UInt8), leadL G f pos l ≤ pos + l.length
  | 0, pos, l => by simp [leadL]
  | f + 1, pos, l => by
    by_cases h : l = []
    · subst h; rw [leadL_nil]; simp
    · cases g : G pos (Lib.decodeL l).1
      · rw [leadL_stop h g]; omega
      · rw [leadL_go h g]
        have a := leadL_le G f (pos + (Lib.decodeL l).2) (l.drop (Lib.decodeL l).2)
        have b := Lib.decodeL_le l h
        rw [List.length_drop] at a
        omega
theorem numEnd_le (l : List UInt8) (n : Nat) (h : n ≤ l.length) : numEnd l n ≤ l.length := by
  unfold numEnd
  split
  · rename_i g
    have a := leadL_le gDig (Lib.trimPrefix (l.drop n) [46]).length 0 (Lib.trimPrefix (l.drop n) [46])
    have b : (Lib.trimPrefix (l.drop n) [46]).length = l.length - n - 1 := by
      unfold Lib.trimPrefix; rw [if_pos g.1]; simp; omega
    have c : 1 ≤ l.length - n := by
      cases q : l.drop n with
      | nil => rw [q] at g; simp [Lib.hasPrefix] at g
      | cons y ys => have := congrArg List.length q; simp at this; omega
    omega
  · exact h

/-- the rest: the text is cut off, parsed, and the token laid -/
theorem num_tail (s : ByteArray) (n : Nat) (h : n ≤ s.size) : s.extract 0 n = ⟨(s.data.toList.take n).toArray⟩ ∧ (s.extract 0 n).size = n := by
  refine ⟨ext_take s n, ?_⟩
  rw [ext_take, mk_size', List.length_take, ← Lib.size_eq]
  omega

theorem three_below {w w1 : World} (hb : Below ((w.alloc (.cells #[.int .i64 0, .string ⟨#[]⟩, .int .i64 0, .int .i64 0, .int .i64 0] 133)).alloc (.cells #[.int .i64 0, .int .i64 0] 129)).heap.size ((w.alloc (.cells #[.int .i64 0, .string ⟨#[]⟩, .int .i64 0, .int .i64 0, .int .i64 0] 133)).alloc (.cells #[.int .i64 0, .int .i64 0] 129)) w1) : RB w.heap.size w1 ∧ Below w.heap.size w w1 :=
  ⟨(RB.new w).keep hb (by simp), (((Below.refl _ _).alloc (Nat.le_refl _) _).alloc (by simp) _).trans (hb.mono (by simp; omega))⟩

theorem two_cells' {w w3 : World} {c x : Int} (hb : Below (w.alloc (.cells #[.int .i64 c, .int .i64 x] 78)).drew.heap.size (w.alloc (.cells #[.int .i64 c, .int .i64 x] 78)).drew w3) :
    w3.cell? ⟨w.heap.size, 0, none⟩ = some (.int .i64 c) ∧ w3.cell? ⟨w.heap.size, 1, none⟩ = some (.int .i64 x) ∧ w.heap.size + 1 ≤ w3.heap.size ∧ Below w.heap.size w w3 := by
  have hb : Below (w.alloc (.cells #[.int .i64 c, .int .i64 x] 78)).heap.size (w.alloc (.cells #[.int .i64 c, .int .i64 x] 78)) w3 := ((Below.refl _ (w.alloc (.cells #[.int .i64 c, .int .i64 x] 78))).drew).trans hb
  have hc := (bcell hb).1
  have s := hb.size
  simp at s
  have hw : Below w.heap.size w (w.alloc (.cells #[.int .i64 c, .int .i64 x] 78)) := (Below.refl w.heap.size w).alloc (Nat.le_refl _) _
  refine ⟨?_, ?_, by omega, hw.trans (hb.mono (by simp))⟩
  all_goals (rw [hc _ _ (by simp)]; simp [go_sem])

set_option maxHeartbeats 2000000 in
theorem firstNumber_any (s : ByteArray) (n : Nat) (w : World) (hs : s.size ≤ 4000) (hn : n ≤ s.size) :
    Calls Tryz.prog 95 #[.string s, .int .i64 (n : Int)] w fun e w' => e = frV (fnF s.data.toList n) ∧ Below w.heap.size w w' := by
  obtain ⟨U, hU⟩ : ∃ U : ByteArray, U = ⟨(Lib.trimPrefix (s.data.toList.drop n) [46]).toArray⟩ := ⟨_, rfl⟩
  have hUl : U.data.toList = Lib.trimPrefix (s.data.toList.drop n) [46] := by rw [hU]
  have hUs : U.size ≤ s.size := by
    rw [Lib.size_eq, hUl]
    have := trim_le (s.data.toList.drop n) [46]
    rw [List.length_drop, ← Lib.size_eq] at this
    omega
  have CP := fun wx => cutPrefix_any (s.extract n s.size) ⟨#[46]⟩ wx
  rw [show (s.extract n s.size).data.toList = s.data.toList.drop n by rw [ext_drop], show (⟨#[46]⟩ : ByteArray).data.toList = [46] from rfl, ← hU] at CP
  have LD := fun wx => leadOfDigits_any U wx (by omega)
  rw [hUl, show U.size = (Lib.trimPrefix (s.data.toList.drop n) [46]).length by rw [Lib.size_eq, hUl]] at LD
  have hle := numEnd_le s.data.toList n (by rw [← Lib.size_eq]; exact hn)
  rw [← Lib.size_eq] at hle
  have hll := leadL_le gDig (Lib.trimPrefix (s.data.toList.drop n) [46]).length 0 (Lib.trimPrefix (s.data.toList.drop n) [46])
  obtain ⟨p, hp⟩ : ∃ p, leadL gDig (Lib.trimPrefix (s.data.toList.drop n) [46]).length 0 (Lib.trimPrefix (s.data.toList.drop n) [46]) = p := ⟨_, rfl⟩
  obtain ⟨q, hq⟩ : ∃ q, Lib.hasPrefix (s.data.toList.drop n) [46] = q := ⟨_, rfl⟩
  have hE : numEnd s.data.toList n = if q = true ∧ 0 < p then n + (1 + p) else n := by unfold numEnd; rw [hp, hq]
  have hF : fnF s.data.toList n = if (parseF (s.data.toList.take (numEnd s.data.toList n))).2.2 = 0 then ⟨2, s.data.toList.take (numEnd s.data.toList n), (parseF (s.data.toList.take (numEnd s.data.toList n))).1, (parseF (s.data.toList.take (numEnd s.data.toList n))).2.1, numEnd s.data.toList n, 0, 0⟩ else ⟨0, [], 0, 0, 0, (parseF (s.data.toList.take (numEnd s.data.toList n))).2.2, 0⟩ := rfl
  rw [hp] at LD hll
  rw [show (Lib.trimPrefix (s.data.toList.drop n) [46]).length = U.size by rw [Lib.size_eq, hUl]] at hll
  rw [hq] at CP
  clear hp hq
  generalize numEnd s.data.toList n = m at *
  obtain ⟨hX, hXs⟩ := num_tail s m hle
  obtain ⟨X, hXX⟩ : ∃ X : ByteArray, X = s.extract 0 m := ⟨_, rfl⟩
  have PA := fun wx => parse_any X wx (by rw [hXX, hXs]; omega)
  rw [show X.data.toList = s.data.toList.take m by rw [hXX, hX]] at PA
  have CL := hide (fun wx => clone_any X wx (by rw [hXX, hXs]; omega))
  have HX : Hid (X = ⟨(s.data.toList.take m).toArray⟩) := hide (hXX.trans hX)
  have HXX := hide hXX.symm
  generalize parseF (s.data.toList.take m) = P at *
  obtain ⟨pc, px, pr⟩ := P
  simp only [pRet] at PA hF
  replace PA := hide PA
  replace CP := hide CP
  replace LD := hide LD
  have c1 : (0 : Int) ≤ (n : Int) := by omega
  have c2 : (n : Int) ≤ (s.size : Int) := by omega
  have c3 : (m : Int) ≤ (s.size : Int) := by omega
  have c4 : (0 : Int) ≤ (m : Int) := by omega
  have hpI : (p : Int) ≤ 4000 := by omega
  have hsI : (s.size : Int) ≤ 4000 := by omega
  clear hX hXX hXs hU hUl hle hll
  cases q
  · rw [if_neg (by simp)] at hE
    subst hE
    go_enter Tryz.func95, Tryz.ntmps95
    go_wp2_with fail
    refine (unhide CP _).mono ?_
    rintro e w1 ⟨rfl, rfl⟩
    have R := hide (RB.new w)
    have HW := hide (((Below.refl w.heap.size w).alloc (Nat.le_refl _) (.cells #[.int .i64 0, .string ⟨#[]⟩, .int .i64 0, .int .i64 0, .int .i64 0] 133)).alloc (by simp) (.cells #[.int .i64 0, .int .i64 0] 129))
    go_wp2_with fail
    rw [unhide HXX]
    refine (unhide PA _).mono ?_
    rintro e w3 ⟨rfl, hb⟩
    have R3 := hide ((unhide R).keep hb (unhide R).sz)
    have W3 := hide ((unhide HW).trans (hb.mono (unhide HW).size))
    clear hb R HW
    by_cases hr : pr = 0
    · subst hr
      have EF := hide (hF.trans (if_pos rfl))
      clear hF
      have lb := (unhide R3).sz
      have lb2 : w.heap.size < w3.heap.size := by omega
      go_wp2_with fail
      go_region_with (go_at_call 97; rw [unhide HXX]; refine (unhide CL _).mono ?_; rintro e w4 ⟨rfl, hb⟩; obtain ⟨z0, z1, z2, z3⟩ := two_cells' hb; obtain ⟨t0, t1, t2, t3, t4, t5, t6⟩ := ((unhide R3).keep z3 lb).tell; obtain ⟨f0, f1, f2, f3, f4, f5, f6⟩ := ((unhide R3).keep z3 lb).thaw)
      all_goals
        go_wp2
        exact bodyPost_ret (v := .tuple #[.agg #[.int .i64 2, .string X, .int .i64 pc, .int .i64 px, .int .i64 0], .int .i64 (m : Int), .agg #[.int .i64 0, .int .i64 0]]) (by simp [results, Tryz.results95, go_sem, t0, t1, t2, t3, t4, t5, t6]) rfl ⟨by rw [unhide EF, unhide HX]; simp [frV], below_res ((unhide W3).trans (z3.mono (by omega))) (Nat.le_refl _)⟩
    · have hr' : (pr != 0) = true := by simpa using hr
      have EF := hide (hF.trans (if_neg hr))
      clear hF hr
      have Rx := (unhide R3).keep (Below.refl w3.heap.size w3) (unhide R3).sz
      obtain ⟨t0, t1, t2, t3, t4, t5, t6⟩ := Rx.tell
      obtain ⟨f0, f1, f2, f3, f4, f5, f6⟩ := Rx.thaw
      have lb := Rx.sz
      have lb2 : w.heap.size < w3.heap.size := by omega
      clear Rx
      go_wp2
      exact bodyPost_ret (v := .tuple #[.agg #[.int .i64 0, .string ⟨#[]⟩, .int .i64 0, .int .i64 0, .int .i64 0], .int .i64 0, .agg #[.int .i64 pr, .int .i64 0]]) (by simp [results, Tryz.results95, go_sem, t0, t1, t2, t3, t4, t5, t6, lb, lb2]) rfl ⟨by rw [unhide EF]; rfl, (below_res (unhide W3) (Nat.le_refl _)).alloc (by simp [World.setCell]; omega) _⟩
  · by_cases hp0 : 0 < p
    · rw [if_pos ⟨rfl, hp0⟩] at hE
      have hp0' : (0 : Int) < (p : Int) := by omega
      subst hE
      clear hp0
      go_enter Tryz.func95, Tryz.ntmps95
      go_wp2_with fail
      refine (unhide CP _).mono ?_
      rintro e w1 ⟨rfl, rfl⟩
      go_wp2_with fail
      refine (unhide LD _).mono ?_
      rintro e w2 ⟨rfl, hb⟩
      obtain ⟨r1, r2⟩ := three_below hb
      have R := hide r1
      have HW := hide r2
      clear r1 r2 hb
      go_wp2_with fail
      rw [unhide HXX]
      refine (unhide PA _).mono ?_
      rintro e w3 ⟨rfl, hb⟩
      have R3 := hide ((unhide R).keep hb (unhide R).sz)
      have W3 := hide ((unhide HW).trans (hb.mono (unhide HW).size))
      clear hb R HW
      by_cases hr : pr = 0
      · subst hr
        have EF := hide (hF.trans (if_pos rfl))
        clear hF
        have lb := (unhide R3).sz
        have lb2 : w.heap.size < w3.heap.size := by omega
        go_wp2_with fail
        go_region_with (go_at_call 97; rw [unhide HXX]; refine (unhide CL _).mono ?_; rintro e w4 ⟨rfl, hb⟩; obtain ⟨z0, z1, z2, z3⟩ := two_cells' hb; obtain ⟨t0, t1, t2, t3, t4, t5, t6⟩ := ((unhide R3).keep z3 lb).tell; obtain ⟨f0, f1, f2, f3, f4, f5, f6⟩ := ((unhide R3).keep z3 lb).thaw)
        all_goals
          go_wp2
          exact bodyPost_ret (v := .tuple #[.agg #[.int .i64 2, .string X, .int .i64 pc, .int .i64 px, .int .i64 0], .int .i64 ((n : Int) + (1 + (p : Int))), .agg #[.int .i64 0, .int .i64 0]]) (by simp [results, Tryz.results95, go_sem, t0, t1, t2, t3, t4, t5, t6]) rfl ⟨by rw [unhide EF, unhide HX]; simp [frV], below_res ((unhide W3).trans (z3.mono (by omega))) (Nat.le_refl _)⟩
      · have hr' : (pr != 0) = true := by simpa using hr
        have EF := hide (hF.trans (if_neg hr))
        clear hF hr
        have Rx := (unhide R3).keep (Below.refl w3.heap.size w3) (unhide R3).sz
        obtain ⟨t0, t1, t2, t3, t4, t5, t6⟩ := Rx.tell
        obtain ⟨f0, f1, f2, f3, f4, f5, f6⟩ := Rx.thaw
        have lb := Rx.sz
        have lb2 : w.heap.size < w3.heap.size := by omega
        clear Rx
        go_wp2
        exact bodyPost_ret (v := .tuple #[.agg #[.int .i64 0, .string ⟨#[]⟩, .int .i64 0, .int .i64 0, .int .i64 0], .int .i64 0, .agg #[.int .i64 pr, .int .i64 0]]) (by simp [results, Tryz.results95, go_sem, t0, t1, t2, t3, t4, t5, t6, lb, lb2]) rfl ⟨by rw [unhide EF]; rfl, (below_res (unhide W3) (Nat.le_refl _)).alloc (by simp [World.setCell]; omega) _⟩
    · rw [if_neg (fun h => hp0 h.2)] at hE
      subst hE
      have hp0' : ¬ (0 : Int) < (p : Int) := by omega
      clear hp0
      go_enter Tryz.func95, Tryz.ntmps95
      go_wp2_with fail
      refine (unhide CP _).mono ?_
      rintro e w1 ⟨rfl, rfl⟩
      go_wp2_with fail
      refine (unhide LD _).mono ?_
      rintro e w2 ⟨rfl, hb⟩
      obtain ⟨r1, r2⟩ := three_below hb
      have R := hide r1
      have HW := hide r2
      clear r1 r2 hb
      go_wp2_with fail
      rw [unhide HXX]
      refine (unhide PA _).mono ?_
      rintro e w3 ⟨rfl, hb⟩
      have R3 := hide ((unhide R).keep hb (unhide R).sz)
      have W3 := hide ((unhide HW).trans (hb.mono (unhide HW).size))
      clear hb R HW
      by_cases hr : pr = 0
      · subst hr
        have EF := hide (hF.trans (if_pos rfl))
        clear hF
        have lb := (unhide R3).sz
        have lb2 : w.heap.size < w3.heap.size := by omega
        go_wp2_with fail
        go_region_with (go_at_call 97; rw [unhide HXX]; refine (unhide CL _).mono ?_; rintro e w4 ⟨rfl, hb⟩; obtain ⟨z0, z1, z2, z3⟩ := two_cells' hb; obtain ⟨t0, t1, t2, t3, t4, t5, t6⟩ := ((unhide R3).keep z3 lb).tell; obtain ⟨f0, f1, f2, f3, f4, f5, f6⟩ := ((unhide R3).keep z3 lb).thaw)
        all_goals
          go_wp2
          exact bodyPost_ret (v := .tuple #[.agg #[.int .i64 2, .string X, .int .i64 pc, .int .i64 px, .int .i64 0], .int .i64 (m : Int), .agg #[.int .i64 0, .int .i64 0]]) (by simp [results, Tryz.results95, go_sem, t0, t1, t2, t3, t4, t5, t6]) rfl ⟨by rw [unhide EF, unhide HX]; simp [frV], below_res ((unhide W3).trans (z3.mono (by omega))) (Nat.le_refl _)⟩
      · have hr' : (pr != 0) = true := by simpa using hr
        have EF := hide (hF.trans (if_neg hr))
        clear hF hr
        have Rx := (unhide R3).keep (Below.refl w3.heap.size w3) (unhide R3).sz
        obtain ⟨t0, t1, t2, t3, t4, t5, t6⟩ := Rx.tell
        obtain ⟨f0, f1, f2, f3, f4, f5, f6⟩ := Rx.thaw
        have lb := Rx.sz
        have lb2 : w.heap.size < w3.heap.size := by omega
        clear Rx
        go_wp2
        exact bodyPost_ret (v := .tuple #[.agg #[.int .i64 0, .string ⟨#[]⟩, .int .i64 0, .int .i64 0, .int .i64 0], .int .i64 0, .agg #[.int .i64 pr, .int .i64 0]]) (by simp [results, Tryz.results95, go_sem, t0, t1, t2, t3, t4, t5, t6, lb, lb2]) rfl ⟨by rw [unhide EF]; rfl, (below_res (unhide W3) (Nat.le_refl _)).alloc (by simp [World.setCell]; omega) _⟩
end Go.Proofs.YtnegjbkbfgkkjaaGreatDoor

/- Walks: first. -/
namespace Go.Proofs.YtnegjbkbfgkkjaaGreatDoor
open Go.RowKit

/-- the token with which l begins -/
def firstF (l : List UInt8) : FR :=
  if l.getD 0 0 = 34 then ftF l
  else if 0 < leadL gDig l.length 0 l then fnF l (leadL gDig l.length 0 l)
  else if 0 < leadL gWord l.length 0 l then ⟨1, l.take (leadL gWord l.length 0 l), 0, 0, leadL gWord l.length 0 l, 0, 0⟩
  else signF signsL l

set_option maxHeartbeats 2000000 in
theorem first_any (s : ByteArray) (w : World) (hs : s.size ≤ 4000) (h1 : 1 ≤ s.size) (hL : LT w) (hS : SG w) :
    Calls Tryz.prog 75 #[.string s] w fun e w' => e = frV (firstF s.data.toList) ∧ Below w.heap.size w w' := by
  have E : firstF s.data.toList = if s.data.toList.getD 0 0 = 34 then ftF s.data.toList else if 0 < leadL gDig s.size 0 s.data.toList then fnF s.data.toList (leadL gDig s.size 0 s.data.toList) else if 0 < leadL gWord s.size 0 s.data.toList then ⟨1, s.data.toList.take (leadL gWord s.size 0 s.data.toList), 0, 0, leadL gWord s.size 0 s.data.toList, 0, 0⟩ else signF signsL s.data.toList := by
    unfold firstF; rw [← Lib.size_eq]
  rw [getD_at s 0 h1] at E
  have B0 : Below w.heap.size w ((w.alloc (.cells #[.int .i64 0, .string ⟨#[]⟩, .int .i64 0, .int .i64 0, .int .i64 0] 133)).alloc (.cells #[.int .i64 0, .int .i64 0] 129)) := ((Below.refl _ _).alloc (Nat.le_refl _) _).alloc (by simp) _
  have hL0 := hide (hL.on B0)
  have hS0 := hide hS
  have dD := leadL_le gDig s.size 0 s.data.toList
  have dW := leadL_le gWord s.size 0 s.data.toList
  rw [← Lib.size_eq] at dD dW
  clear hL hS B0
  by_cases h34 : s[0].toNat = 34
  · rw [if_pos (show s[0] = 34 from (u8_eq _ 34 (by omega)).2 h34)] at E
    have C := hide (fun wx => firstText_any s wx hs h1)
    generalize ftF s.data.toList = r at *
    obtain ⟨k, t, c, x, n, e, a⟩ := r
    simp only [frV] at C
    have HE := hide E
    have h34' : ((s[0].toNat : Int) == 34) = true := by simp; omega
    clear E h34 dD dW hL0 hS0
    go_enter Tryz.func75, Tryz.ntmps75
    go_wp2_with fail
    refine (unhide C _).mono ?_
    rintro e' w1 ⟨rfl, hb⟩
    obtain ⟨R4, hw⟩ := three_below hb
    clear hb
    obtain ⟨t0, t1, t2, t3, t4, t5, t6⟩ := R4.tell
    obtain ⟨f0, f1, f2, f3, f4, f5, f6⟩ := R4.thaw
    have lb := R4.sz
    clear R4
    go_wp2
    exact bodyPost_ret (v := .tuple #[.agg #[.int .i64 k, .string ⟨t.toArray⟩, .int .i64 c, .int .i64 x, .int .i64 0], .int .i64 (n : Int), .agg #[.int .i64 e, .int .i64 (a : Int)]]) (by simp [results, Tryz.results75, go_sem, t0, t1, t2, t3, t4, t5, t6]) rfl ⟨by rw [unhide HE]; rfl, below_res hw (Nat.le_refl _)⟩
  have h34' : ((s[0].toNat : Int) == 34) = false := by simp; omega
  rw [if_neg (show ¬ s[0] = 34 from fun a => h34 ((u8_eq _ 34 (by omega)).1 a))] at E
  have LD := hide (fun wx => leadOfDigits_any s wx hs)
  clear h34
  generalize leadL gDig s.size 0 s.data.toList = nd at *
  by_cases hd : 0 < nd
  · rw [if_pos hd] at E
    have C := hide (fun wx => firstNumber_any s nd wx hs (by omega))
    have hd' : (0 : Int) < (nd : Int) := by omega
    generalize fnF s.data.toList nd = r at *
    obtain ⟨k, t, c, x, n, e, a⟩ := r
    simp only [frV] at C
    have HE := hide E
    clear E hd dW hL0 hS0
    go_enter Tryz.func75, Tryz.ntmps75
    go_wp2_with fail
    refine (unhide LD _).mono ?_
    rintro e' w1 ⟨rfl, hb⟩
    obtain ⟨r1, r2⟩ := three_below hb
    have R := hide r1
    have HW := hide r2
    have HB := hide hb
    clear r1 r2 hb
    go_wp2_with fail
    refine (unhide C _).mono ?_
    rintro e' w2 ⟨rfl, hb⟩
    have R4 := (unhide R).keep hb (unhide R).sz
    have hw := (unhide HW).trans (hb.mono (unhide HW).size)
    clear hb
    obtain ⟨t0, t1, t2, t3, t4, t5, t6⟩ := R4.tell
    obtain ⟨f0, f1, f2, f3, f4, f5, f6⟩ := R4.thaw
    have lb := R4.sz
    clear R4
    go_wp2
    exact bodyPost_ret (v := .tuple #[.agg #[.int .i64 k, .string ⟨t.toArray⟩, .int .i64 c, .int .i64 x, .int .i64 0], .int .i64 (n : Int), .agg #[.int .i64 e, .int .i64 (a : Int)]]) (by simp [results, Tryz.results75, go_sem, t0, t1, t2, t3, t4, t5, t6]) rfl ⟨by rw [unhide HE]; rfl, below_res hw (Nat.le_refl _)⟩
  rw [if_neg hd] at E
  have hd' : ¬ (0 : Int) < (nd : Int) := by omega
  clear hd
  have LW := hide (fun wx hl => leadOfWord_any s wx hs hl)
  generalize leadL gWord s.size 0 s.data.toList = nw at *
  by_cases hw' : 0 < nw
  · rw [if_pos hw'] at E
    have hwI : (0 : Int) < (nw : Int) := by omega
    have hwJ : (nw : Int) ≤ (s.size : Int) := by omega
    obtain ⟨hX, hXs⟩ := num_tail s nw (by omega)
    obtain ⟨X, hXX⟩ : ∃ X : ByteArray, X = s.extract 0 nw := ⟨_, rfl⟩
    have CL := hide (fun wx => clone_any X wx (by rw [hXX, hXs]; omega))
    have HX : Hid (X = ⟨(s.data.toList.take nw).toArray⟩) := hide (hXX.trans hX)
    have HXX := hide hXX.symm
    have HE := hide E
    clear E hw' hX hXs hXX hS0
    go_enter Tryz.func75, Tryz.ntmps75
    go_wp2_with fail
    refine (unhide LD _).mono ?_
    rintro e' w1 ⟨rfl, hb⟩
    obtain ⟨r1, r2⟩ := three_below hb
    have R := hide r1
    have HW := hide r2
    have HB := hide hb
    clear r1 r2 hb
    go_wp2_with fail
    refine (unhide LW _ ?_).mono ?_
    · exact (unhide hL0).on (unhide HB)
    rintro e' w2 ⟨rfl, hb⟩
    replace R := hide ((unhide R).keep hb (unhide R).sz)
    have HB2 := hide hb
    replace HW := hide ((unhide HW).trans (hb.mono (unhide HW).size))
    clear hb
    go_wp2_with fail
    rw [unhide HXX]
    refine (unhide CL _).mono ?_
    rintro e' w3 ⟨rfl, hb⟩
    have R4 := (unhide R).keep hb (unhide R).sz
    have hw := (unhide HW).trans (hb.mono (unhide HW).size)
    clear hb
    obtain ⟨t0, t1, t2, t3, t4, t5, t6⟩ := R4.tell
    obtain ⟨f0, f1, f2, f3, f4, f5, f6⟩ := R4.thaw
    have lb := R4.sz
    clear R4
    go_wp2
    exact bodyPost_ret (v := .tuple #[.agg #[.int .i64 1, .string X, .int .i64 0, .int .i64 0, .int .i64 0], .int .i64 (nw : Int), .agg #[.int .i64 0, .int .i64 0]]) (by simp [results, Tryz.results75, go_sem, t0, t1, t2, t3, t4, t5, t6]) rfl ⟨by rw [unhide HE, unhide HX]; rfl, below_res hw (Nat.le_refl _)⟩
  · rw [if_neg hw'] at E
    have hwI : ¬ (0 : Int) < (nw : Int) := by omega
    have C := hide (fun wx hl => firstSign_any s wx hl)
    generalize signF signsL s.data.toList = r at *
    obtain ⟨k, t, c, x, n, e, a⟩ := r
    simp only [frV] at C
    have HE := hide E
    clear E hw'
    go_enter Tryz.func75, Tryz.ntmps75
    go_wp2_with fail
    refine (unhide LD _).mono ?_
    rintro e' w1 ⟨rfl, hb⟩
    obtain ⟨r1, r2⟩ := three_below hb
    have R := hide r1
    have HW := hide r2
    have HB := hide hb
    clear r1 r2 hb
    go_wp2_with fail
    refine (unhide LW _ ?_).mono ?_
    · exact (unhide hL0).on (unhide HB)
    rintro e' w2 ⟨rfl, hb⟩
    replace R := hide ((unhide R).keep hb (unhide R).sz)
    have HB2 := hide hb
    replace HW := hide ((unhide HW).trans (hb.mono (unhide HW).size))
    clear hb
    go_wp2_with fail
    refine (unhide C _ ?_).mono ?_
    · exact (unhide hS0).on (unhide HW)
    rintro e' w3 ⟨rfl, hb⟩
    have R4 := (unhide R).keep hb (unhide R).sz
    have hw := (unhide HW).trans (hb.mono (unhide HW).size)
    clear hb
    obtain ⟨t0, t1, t2, t3, t4, t5, t6⟩ := R4.tell
    obtain ⟨f0, f1, f2, f3, f4, f5, f6⟩ := R4.thaw
    have lb := R4.sz
    clear R4
    go_wp2
    exact bodyPost_ret (v := .tuple #[.agg #[.int .i64 k, .string ⟨t.toArray⟩, .int .i64 c, .int .i64 x, .int .i64 0], .int .i64 (n : Int), .agg #[.int .i64 e, .int .i64 (a : Int)]]) (by simp [results, Tryz.results75, go_sem, t0, t1, t2, t3, t4, t5, t6]) rfl ⟨by rw [unhide HE]; rfl, below_res hw (Nat.le_refl _)⟩
end Go.Proofs.YtnegjbkbfgkkjaaGreatDoor
