/- Walks: it answers (the law's closed fact). -/
import Derived.Test.YtdgojpjmhalilaaGreatDoorG07
import Derived.Test.YtdgojpjmhalilaaGreatDoorG03
import Derived.Shelf.Strings.Repeat
namespace Go.Proofs.YtdgojpjmhalilaaGreatDoor
open Go.RowKit Go.Shelf

/-- the block of the empty list's expression -/
structure XB (w : World) (b : Nat) : Prop where
  low : b < w.heap.size
  tell : w.cell? ⟨b, 0, none⟩ = some (.int .i64 19) ∧ w.cell? ⟨b, 1, none⟩ = some (.int .i64 0) ∧ w.cell? ⟨b, 2, none⟩ = some (.bool false) ∧ w.cell? ⟨b, 3, none⟩ = some (.int .i64 0) ∧ w.cell? ⟨b, 4, none⟩ = some (.int .i64 0) ∧ w.cell? ⟨b, 5, none⟩ = some (.string ⟨#[]⟩) ∧ w.cell? ⟨b, 6, none⟩ = some (.slice none 0 0) ∧ w.cell? ⟨b, 7, none⟩ = some (.string ⟨#[]⟩) ∧ w.cell? ⟨b, 8, none⟩ = some (.slice none 0 0)
theorem XB.keep {w w' : World} {b : Nat} (h : XB w b) {B : Nat} (hb : Below B w w') (l : b < B) : XB w' b := by
  have c : ∀ o, w'.cell? ⟨b, o, none⟩ = w.cell? ⟨b, o, none⟩ := fun o => hb.cell (p := ⟨b, o, none⟩) l
  refine ⟨Nat.lt_of_lt_of_le h.low hb.size, ?_⟩
  simp only [c]
  exact h.tell
theorem XB.new (w : World) : XB (w.alloc xlo) w.heap.size := ⟨by simp, by go_simp, by go_simp, by go_simp, by go_simp, by go_simp, by go_simp, by go_simp, by go_simp, by go_simp⟩

theorem rep_any (s : ByteArray) (c : Nat) (w : World) (hc : c ≤ 9223372036854775807) (hlen : s.size * c ≤ 140737488355328) :
    Calls Tryz.prog 13 #[.string s, .int .i64 c] w fun e w' => e = .returned (.string ⟨(Lib.repeatL s.data.toList c).toArray⟩) ∧ Below w.heap.size w w' :=
  Any.strings_Repeat Tryz.lays105 Tryz.lays105X s c w hc hlen
theorem rep0 (w : World) :
    Calls Tryz.prog 13 #[.string ⟨#[108, 105, 115, 116, 32, 111, 102, 32]⟩, .int .i64 0] w fun e w' => e = .returned (.string ⟨#[]⟩) ∧ Below w.heap.size w w' :=
  rep_any ⟨#[108, 105, 115, 116, 32, 111, 102, 32]⟩ 0 w (by omega) (by simp)

set_option maxHeartbeats 4000000 in
theorem kindName_3 (w : World) : Calls Tryz.prog 14 #[.int .i64 3] w fun e w' => e = .returned (.string ⟨#[110, 117, 109, 98, 101, 114]⟩) ∧ Below w.heap.size w w' := by
  go_enter Tryz.func14, Tryz.ntmps14
  go_wp2
  go_ret
  exact ⟨rfl, Below.refl _ _⟩

set_option maxHeartbeats 4000000 in
theorem name_num (w : World) : Calls Tryz.prog 7 #[.agg #[.int .i64 3, .slice none 0 0]] w fun e w' => e = .returned (.string ⟨#[110, 117, 109, 98, 101, 114]⟩) ∧ Below w.heap.size w w' := by
  have SH := hide (fun wx => shapeOf_any ⟨0, 3⟩ #[.int .i64 3, .slice none 0 0] wx (by simp) (by simp) (MemTP.mkLeaf _ _ _ _ _))
  go_enter Tryz.func7, Tryz.ntmps7
  go_wp2_with fail
  refine (unhide SH _).mono ?_
  rintro e w1 ⟨rfl, hb⟩
  have B1 := hide (below_via ((Below.refl _ _).alloc (Nat.le_refl _) _) hb)
  clear hb SH
  go_wp2_with fail
  have X0 := Bx2.new w1 47 (.int .i64 ((0 : Nat) : Int)) (.int .i64 3)
  have B2 := (unhide B1).alloc (unhide B1).size (.cells #[.int .i64 ((0 : Nat) : Int), .int .i64 3] 47)
  have e0 : ((0 : Nat) : Int) = 0 := rfl
  rw [e0] at X0 B2
  generalize w1.alloc (.cells #[.int .i64 0, .int .i64 3] 47) = w2 at X0 B2 ⊢
  have c0 := X0.at0
  have c1 := X0.at1
  have HX := hide X0
  have HB := hide B2
  clear X0 B2 B1 e0
  go_region_with (first
    | (go_at_call 13
       refine (rep0 _).mono ?_
       rintro e w3 ⟨rfl, hb⟩
       replace hb : Below w2.heap.size w2 w3 := below_via (by repeat (first | assumption | exact Below.refl _ _ | apply Below.drew)) hb
       have q0 := ((unhide HX).keep hb (unhide HX).low).at0
       have q1 := ((unhide HX).keep hb (unhide HX).low).at1)
    | (go_at_call 14
       refine (kindName_3 _).mono ?_
       rintro e w4 ⟨rfl, hb⟩
       replace hb : Below w2.heap.size w2 w4 := below_via (by repeat (first | assumption | exact Below.refl _ _ | apply Below.drew)) hb))
  all_goals
    have HC := hide (below_via (unhide HB) hb)
    clear hb
    go_wp2
    go_ret
    exact ⟨rfl, by repeat (first | exact unhide HC | apply Below.drew)⟩

set_option maxHeartbeats 4000000 in
theorem typed_xl (p : Nat) (w : World) : Calls Tryz.prog 10 #[.pointer (some ⟨p, 0, none⟩), xl] w fun e w' => e = .returned (.tuple #[shn 1 1, .int .i64 0]) ∧ Below w.heap.size w w' := by
  have D0 := hide ((XB.new w).keep ((Below.refl _ _).alloc (Nat.le_refl _) (.cells #[.int .i64 0, .int .i64 0] 47)) (XB.new w).low)
  have X0 : Hid (Bx2 ((w.alloc xlo).alloc (.cells #[.int .i64 0, .int .i64 0] 47)) (w.heap.size + 1) (.int .i64 0) (.int .i64 0)) := hide (by simpa using Bx2.new (w.alloc xlo) 47 (.int .i64 0) (.int .i64 0))
  have B0 := hide (((Below.refl w.heap.size w).alloc (Nat.le_refl _) xlo).alloc (by simp) (.cells #[.int .i64 0, .int .i64 0] 47))
  go_enter Tryz.func10, Tryz.ntmps10
  go_wp2_with fail
  refine (ofKids_nil p _).mono ?_
  rintro e w1 ⟨a1, cp1, rfl, hb⟩
  have B1 := hide (below_via (unhide B0) hb)
  have X1 := hide ((unhide X0).keep hb (unhide X0).low)
  have D1 := hide ((unhide D0).keep hb (unhide D0).low)
  clear hb B0 X0 D0
  obtain ⟨d0, d1, d2, d3, d4, d5, d6, d7, d8⟩ := (unhide D1).tell
  clear D1
  go_wp2_with fail
  refine (ofNode_xl _ _ _).mono ?_
  rintro e w2 ⟨rfl, hb⟩
  have B2 := hide (below_via (unhide B1) hb)
  have X2 := hide ((unhide X1).keep hb (unhide X1).low)
  clear hb B1 X1 d0 d1 d2 d3 d4 d5 d6 d7 d8
  go_wp2_with fail
  refine (orWrong_yes _).mono ?_
  rintro e w3 ⟨rfl, hb⟩
  have B3 := hide (below_via (unhide B2) hb)
  have X := (unhide X2).keep hb (unhide X2).low
  have R := X.put (.int .i64 1) (.int .i64 1)
  have g0 := X.at0
  have g1 := X.at1
  have h0 := X.th0
  have h1 := X.th1
  have l2 := X.low
  have r0 := hide R.at0
  have r1 := hide R.at1
  clear hb B2 X2 X R
  go_wp2
  refine bodyPost_ret (v := .tuple #[shn 1 1, .int .i64 0]) ?_ rfl ⟨rfl, ?_⟩
  · simp [results, Tryz.results10, go_sem, unhide r0, unhide r1]
  · exact ((unhide B3).setCell (by simp) _).setCell (by simp) _

set_option maxHeartbeats 4000000 in
theorem type_xl (w : World) : Calls Tryz.prog 5 #[xl, .slice none 0 0] w fun e w' => ∃ a n c, e = .returned (.tuple #[.agg #[.int .i64 5, .slice a n c], .int .i64 0]) ∧ Below w.heap.size w w' := by
  have D0 := hide ((XB.new w).keep ((Below.refl _ _).alloc (Nat.le_refl _) (.cells #[.int .i64 0, .slice none 0 0] 33)) (XB.new w).low)
  have X0 : Hid (Bx2 ((w.alloc xlo).alloc (.cells #[.int .i64 0, .slice none 0 0] 33)) (w.heap.size + 1) (.int .i64 0) (.slice none 0 0)) := hide (by simpa using Bx2.new (w.alloc xlo) 33 (.int .i64 0) (.slice none 0 0))
  have B0 := hide (((Below.refl w.heap.size w).alloc (Nat.le_refl _) xlo).alloc (by simp) (.cells #[.int .i64 0, .slice none 0 0] 33))
  have WR := hide (fun wx => written_any ⟨1, 1⟩ wx (by simp))
  go_enter Tryz.func5, Tryz.ntmps5
  go_wp2_with fail
  refine (wrongAsked_xl _).mono ?_
  rintro e w1 ⟨rfl, hb⟩
  have B1 := hide (below_via (unhide B0) hb)
  have X1 := hide ((unhide X0).keep hb (unhide X0).low)
  have D1 := hide ((unhide D0).keep hb (unhide D0).low)
  clear hb B0 X0 D0
  go_wp2_with fail
  refine (newTyper_nil _).mono ?_
  rintro e w2 ⟨p, m, f, rfl, lp, hp, hb⟩
  have B2 := hide (below_via (unhide B1) hb)
  have X2 := hide ((unhide X1).keep hb (unhide X1).low)
  have D2 := (unhide D1).keep hb (unhide D1).low
  clear hb B1 X1 D1 hp lp
  obtain ⟨d0, d1, d2, d3, d4, d5, d6, d7, d8⟩ := D2.tell
  clear D2
  go_wp2_with fail
  refine (typed_xl p _).mono ?_
  rintro e w3 ⟨rfl, hb⟩
  have B3 := hide (below_via (unhide B2) hb)
  have X3 := hide ((unhide X2).keep hb (unhide X2).low)
  clear hb B2 X2 d0 d1 d2 d3 d4 d5 d6 d7 d8
  go_wp2_with fail
  refine (unhide WR _).mono ?_
  rintro e w4 ⟨v, rfl, hv, hb⟩
  obtain ⟨b, off, cap, u0, u1, rfl, _⟩ := MemTP.kid (k := 5) (T := rtN 0 1) hv
  have B4 := hide (below_via (unhide B3) (below_via ((Below.refl _ _).alloc (Nat.le_refl _) _) hb))
  have X := (unhide X3).keep (below_via ((Below.refl _ _).alloc (Nat.le_refl _) _) hb) (unhide X3).low
  have R := X.put (.int .i64 5) (.slice (some ⟨b, off, none⟩) 1 cap)
  have g0 := X.at0
  have g1 := X.at1
  have h0 := X.th0
  have h1 := X.th1
  have l2 := X.low
  have r0 := hide R.at0
  have r1 := hide R.at1
  clear hb B3 X3 X R hv WR
  go_wp2
  refine bodyPost_ret (v := .tuple #[.agg #[.int .i64 5, .slice (some ⟨b, off, none⟩) 1 cap], .int .i64 0]) ?_ rfl ⟨_, _, _, rfl, ?_⟩
  · simp [results, Tryz.results5, go_sem, unhide r0, unhide r1]
  · exact ((unhide B4).setCell (by simp) _).setCell (by simp) _

set_option maxHeartbeats 4000000 in
theorem alive_any (w : World) : Calls Tryz.prog 4 #[] w fun e w' => e = .returned (.bool true) ∧ Below w.heap.size w w' := by
  go_enter Tryz.func4, Tryz.ntmps4
  go_wp2_with fail
  refine (type_xl _).mono ?_
  rintro e w1 ⟨a, n, c, rfl, hb⟩
  have B1 := hide (hb.alloc hb.size (.cells #[.int .i64 5, .slice a n c] 33))
  clear hb
  go_wp2_with fail
  refine (name_num _).mono ?_
  rintro e w2 ⟨rfl, hb⟩
  have B2 := hide (below_via (unhide B1) hb)
  clear hb B1
  go_wp2
  go_ret
  exact ⟨rfl, unhide B2⟩
end Go.Proofs.YtdgojpjmhalilaaGreatDoor
