/- The walk over LogicOrder, where the three are right and of one kind. -/
import Derived.Test.YteniijhffinhnaaDoorL0
import Derived.Deep.Cut
namespace Go.Proofs.YteniijhffinhnaaDoor
open Go.RowKit

/-- three truths in a row -/
def R3 (w : World) (b : Nat) (g1 g2 g3 : Bool) : Prop := Six w b 0 (tb g1) ∧ Six w b 6 (tb g2) ∧ Six w b 12 (tb g3) ∧ b < w.heap.size
theorem R3.over {w : World} {b : Nat} {g1 g2 g3 : Bool} {o : Obj} (h : R3 w b g1 g2 g3) : R3 (w.alloc o) b g1 g2 g3 :=
  ⟨h.1.below (below_new w o) h.2.2.2, h.2.1.below (below_new w o) h.2.2.2, h.2.2.1.below (below_new w o) h.2.2.2, Nat.lt_of_lt_of_le h.2.2.2 (by simp)⟩
theorem R3.new {w : World} {t : TypeId} {g1 g2 g3 : Bool} : R3 (w.alloc (.cells #[.int .i64 2, .bool g1, .int .i64 0, .int .i64 0, .string ⟨#[]⟩, .slice none 0 0, .int .i64 2, .bool g2, .int .i64 0, .int .i64 0, .string ⟨#[]⟩, .slice none 0 0, .int .i64 2, .bool g3, .int .i64 0, .int .i64 0, .string ⟨#[]⟩, .slice none 0 0] t)) w.heap.size g1 g2 g3 := by
  refine ⟨⟨_, _, _, _, _, _, rfl, ?_, ?_, ?_, ?_, ?_, ?_⟩, ⟨_, _, _, _, _, _, rfl, ?_, ?_, ?_, ?_, ?_, ?_⟩, ⟨_, _, _, _, _, _, rfl, ?_, ?_, ?_, ?_, ?_, ?_⟩, by simp⟩ <;> simp [go_sem]
theorem six_tb {w : World} {b o : Nat} {g : Bool} (h : Six w b o (tb g)) : w.cell? ⟨b, o, none⟩ = some (.int .i64 2) ∧ w.cell? ⟨b, o + 1, none⟩ = some (.bool g) ∧ w.cell? ⟨b, o + 2, none⟩ = some (.int .i64 0) ∧ w.cell? ⟨b, o + 3, none⟩ = some (.int .i64 0) ∧ w.cell? ⟨b, o + 4, none⟩ = some (.string ⟨#[]⟩) ∧ w.cell? ⟨b, o + 5, none⟩ = some (.slice none 0 0) := by
  obtain ⟨u0, u1, u2, u3, u4, u5, hu, h0, h1, h2, h3, h4, h5⟩ := h
  simp only [Array.mk.injEq, List.cons.injEq, and_true] at hu
  obtain ⟨rfl, rfl, rfl, rfl, rfl, rfl⟩ := hu
  exact ⟨h0, h1, h2, h3, h4, h5⟩
theorem R3.at0 {w : World} {b : Nat} {g1 g2 g3 : Bool} (h : R3 w b g1 g2 g3) : w.cell? ⟨b, 0, none⟩ = some (.int .i64 2) ∧ w.cell? ⟨b, 1, none⟩ = some (.bool g1) ∧ w.cell? ⟨b, 2, none⟩ = some (.int .i64 0) ∧ w.cell? ⟨b, 3, none⟩ = some (.int .i64 0) ∧ w.cell? ⟨b, 4, none⟩ = some (.string ⟨#[]⟩) ∧ w.cell? ⟨b, 5, none⟩ = some (.slice none 0 0) := six_tb h.1
theorem R3.at1 {w : World} {b : Nat} {g1 g2 g3 : Bool} (h : R3 w b g1 g2 g3) : w.cell? ⟨b, 6, none⟩ = some (.int .i64 2) ∧ w.cell? ⟨b, 7, none⟩ = some (.bool g2) ∧ w.cell? ⟨b, 8, none⟩ = some (.int .i64 0) ∧ w.cell? ⟨b, 9, none⟩ = some (.int .i64 0) ∧ w.cell? ⟨b, 10, none⟩ = some (.string ⟨#[]⟩) ∧ w.cell? ⟨b, 11, none⟩ = some (.slice none 0 0) := six_tb h.2.1
theorem R3.at2 {w : World} {b : Nat} {g1 g2 g3 : Bool} (h : R3 w b g1 g2 g3) : w.cell? ⟨b, 12, none⟩ = some (.int .i64 2) ∧ w.cell? ⟨b, 13, none⟩ = some (.bool g3) ∧ w.cell? ⟨b, 14, none⟩ = some (.int .i64 0) ∧ w.cell? ⟨b, 15, none⟩ = some (.int .i64 0) ∧ w.cell? ⟨b, 16, none⟩ = some (.string ⟨#[]⟩) ∧ w.cell? ⟨b, 17, none⟩ = some (.slice none 0 0) := six_tb h.2.2.1

set_option maxRecDepth 20000 in
set_option maxHeartbeats 4000000 in
theorem order_ok (k : Int) (hk : k = 3 ∨ k = 4) (y1 : Bool) (c1 x1 : Int) (t1 m1 : Value) (y2 : Bool) (c2 x2 : Int) (t2 m2 : Value) (y3 : Bool) (c3 x3 : Int) (t3 m3 : Value) (w : World) (g1 g2 g3 g4 g5 : Bool)
    (W1 : Told1 5 w (raw k y1 c1 x1 t1 m1) (.int .i64 0)) (W2 : Told1 5 w (raw k y2 c2 x2 t2 m2) (.int .i64 0)) (W3 : Told1 5 w (raw k y3 c3 x3 t3 m3) (.int .i64 0))
    (L12 : Told2 6 w (raw k y1 c1 x1 t1 m1) (raw k y2 c2 x2 t2 m2) (.agg (tb g1))) (L21 : Told2 6 w (raw k y2 c2 x2 t2 m2) (raw k y1 c1 x1 t1 m1) (.agg (tb g2))) (E12 : Told2 7 w (raw k y1 c1 x1 t1 m1) (raw k y2 c2 x2 t2 m2) (.agg (tb g3)))
    (L23 : Told2 6 w (raw k y2 c2 x2 t2 m2) (raw k y3 c3 x3 t3 m3) (.agg (tb g4))) (L13 : Told2 6 w (raw k y1 c1 x1 t1 m1) (raw k y3 c3 x3 t3 m3) (.agg (tb g5)))
    (one : (g1 = true ∧ g2 = false ∧ g3 = false) ∨ (g1 = false ∧ g2 = true ∧ g3 = false) ∨ (g1 = false ∧ g2 = false ∧ g3 = true)) (tr : g1 = true → g4 = true → g5 = true) :
    Calls Tryd.prog 3 #[.agg (raw k y1 c1 x1 t1 m1), .agg (raw k y2 c2 x2 t2 m2), .agg (raw k y3 c3 x3 t3 m3)] w fun e w' => e = .returned (.bool true) ∧ Below w.heap.size w w' := by
  replace W1 := hide W1
  replace W2 := hide W2
  replace W3 := hide W3
  replace L12 := hide L12
  replace L21 := hide L21
  replace E12 := hide E12
  replace L23 := hide L23
  replace L13 := hide L13
  replace one := hide one
  replace tr := hide tr
  rcases hk with rfl | rfl
  · go_enter Tryd.func3, Tryd.ntmps3
    go_wp2_with fail
    refine (alive_any _).mono ?_
    rintro e w0 ⟨rfl, hb⟩
    obtain ⟨A, B, C, hw⟩ := box3 hb
    clear hb
    obtain ⟨a0, a1, a2, a3, a4, a5⟩ := A.tell
    go_wp2_with fail
    refine (unhide W1 _ hw).mono ?_
    rintro e w1 ⟨rfl, hb⟩
    replace A := A.keep hb A.low
    replace B := B.keep hb B.low
    replace C := C.keep hb C.low
    replace hw := hw.trans (hb.mono hw.size)
    clear hb a0 a1 a2 a3 a4 a5
    obtain ⟨a0, a1, a2, a3, a4, a5⟩ := B.tell
    go_wp2_with fail
    refine (unhide W2 _ hw).mono ?_
    rintro e w2 ⟨rfl, hb⟩
    replace A := A.keep hb A.low
    replace B := B.keep hb B.low
    replace C := C.keep hb C.low
    replace hw := hw.trans (hb.mono hw.size)
    clear hb a0 a1 a2 a3 a4 a5
    obtain ⟨a0, a1, a2, a3, a4, a5⟩ := C.tell
    go_wp2_with fail
    refine (unhide W3 _ hw).mono ?_
    rintro e w3 ⟨rfl, hb⟩
    replace A := A.keep hb A.low
    replace B := B.keep hb B.low
    replace C := C.keep hb C.low
    replace hw := hw.trans (hb.mono hw.size)
    clear hb a0 a1 a2 a3 a4 a5
    obtain ⟨a0, a1, a2, a3, a4, a5⟩ := A.tell
    obtain ⟨b0, b1, b2, b3, b4, b5⟩ := B.tell
    obtain ⟨e0, e1, e2, e3, e4, e5⟩ := C.tell
    go_wp2_with fail
    clear a0 a1 a2 a3 a4 a5 b0 b1 b2 b3 b4 b5 e0 e1 e2 e3 e4 e5
    refine frame_intro (fun a => G a 3 = .pointer (some ⟨w.heap.size, 0, none⟩) ∧ G a 4 = .pointer (some ⟨w.heap.size + 1, 0, none⟩) ∧ G a 5 = .pointer (some ⟨w.heap.size + 1 + 1, 0, none⟩) ∧ a.tmps.size = 102 ∧ a.defers = []) ⟨rfl, rfl, rfl, rfl, rfl⟩ ?_
    rintro a0 ⟨s3, s4, s5, hsz, hdf⟩
    refine region_any (I := fun L a w' => ∃ p9 p10 p11, J5 w w3.heap.size a0 3 y1 c1 x1 t1 m1 y2 c2 x2 t2 m2 y3 c3 x3 t3 m3 g1 g2 g3 p9 p10 p11 (L 0) (L 1) (L 2) (L 3) (L 4) (L 5) (L 6) (L 7) (L 8) (L 9) (L 10) (L 11) (L 12) (L 13) (L 14) a w') (by kernel_rfl) ?wait ?step ?done ?start
    case wait => exact ⟨by simp, by simp, by simp, by simp, by simp, by simp, by simp, by simp, by simp, by simp, by simp, by simp, by simp, by simp, by simp, trivial⟩
    case start =>
      exact ⟨0, 0, 0, hsz, hdf, fun _ _ _ _ _ _ _ _ _ _ _ _ _ => rfl, fun z => (by cases z), fun z => (by cases z), fun z => (by cases z), fun z => (by cases z), fun z => (by cases z), fun z => (by cases z), fun z => (by cases z), fun z => (by cases z), fun z => (by cases z), fun z => (by cases z), fun z => (by cases z), fun z => (by cases z), fun z => (by cases z), fun z => (by cases z), fun z => (by cases z), fun z => (by cases z), fun z => (by cases z), fun z => (by cases z), fun z => (by cases z), fun z => (by cases z), fun z => (by cases z), A.keep (Below.refl _ _).drew A.low, A.low, B.keep (Below.refl _ _).drew B.low, B.low, C.keep (Below.refl _ _).drew C.low, C.low, hw.drew, hw.size, Nat.le_refl _⟩
    case step =>
      clear A B C hw
      refine ⟨?_, ?_, ?_, ?_, ?_, ?_, ?_, ?_, ?_, ?_, ?_, ?_, ?_, ?_, ?_, trivial⟩
      · rintro L a w1 ⟨p9, p10, p11, h⟩ hcl hL hw
        refine o_load rfl (by rw [h.size]; decide) ((h.rest 3 (by decide) (by decide) (by decide) (by decide) (by decide) (by decide) (by decide) (by decide) (by decide) (by decide) (by decide) (by decide)).trans s3) h.xA ?_
        intro a' U hd
        exact ⟨_, _, _, h.at0 U hd (Below.refl _ _)⟩
      · rintro L a w1 ⟨p9, p10, p11, h⟩ hcl hL hw
        refine o_load rfl (by rw [h.size]; decide) ((h.rest 4 (by decide) (by decide) (by decide) (by decide) (by decide) (by decide) (by decide) (by decide) (by decide) (by decide) (by decide) (by decide)).trans s4) h.xB ?_
        intro a' U hd
        exact ⟨_, _, _, h.at1 U hd (Below.refl _ _)⟩
      · rintro L a w1 ⟨p9, p10, p11, h⟩ hcl hL hw
        refine o_call2 (R := fun w' => Below w1.heap.size w1 w') rfl (by rw [h.size]; decide) (h.v0 (hw ⟨0, .data⟩ (by simp) rfl)) (h.v1 (hw ⟨1, .data⟩ (by simp) rfl)) callLess (unhide L12 _ h.old) ?_
        intro a' w' hb U hd
        exact ⟨_, _, _, h.at2 U hd hb⟩
      · rintro L a w1 ⟨p9, p10, p11, h⟩ hcl hL hw
        refine o_load rfl (by rw [h.size]; decide) ((h.rest 4 (by decide) (by decide) (by decide) (by decide) (by decide) (by decide) (by decide) (by decide) (by decide) (by decide) (by decide) (by decide)).trans s4) h.xB ?_
        intro a' U hd
        exact ⟨_, _, _, h.at3 U hd (Below.refl _ _)⟩
      · rintro L a w1 ⟨p9, p10, p11, h⟩ hcl hL hw
        refine o_load rfl (by rw [h.size]; decide) ((h.rest 3 (by decide) (by decide) (by decide) (by decide) (by decide) (by decide) (by decide) (by decide) (by decide) (by decide) (by decide) (by decide)).trans s3) h.xA ?_
        intro a' U hd
        exact ⟨_, _, _, h.at4 U hd (Below.refl _ _)⟩
      · rintro L a w1 ⟨p9, p10, p11, h⟩ hcl hL hw
        refine o_call2 (R := fun w' => Below w1.heap.size w1 w') rfl (by rw [h.size]; decide) (h.v3 (hw ⟨3, .data⟩ (by simp) rfl)) (h.v4 (hw ⟨4, .data⟩ (by simp) rfl)) callLess (unhide L21 _ h.old) ?_
        intro a' w' hb U hd
        exact ⟨_, _, _, h.at5 U hd hb⟩
      · rintro L a w1 ⟨p9, p10, p11, h⟩ hcl hL hw
        refine o_load rfl (by rw [h.size]; decide) ((h.rest 3 (by decide) (by decide) (by decide) (by decide) (by decide) (by decide) (by decide) (by decide) (by decide) (by decide) (by decide) (by decide)).trans s3) h.xA ?_
        intro a' U hd
        exact ⟨_, _, _, h.at6 U hd (Below.refl _ _)⟩
      · rintro L a w1 ⟨p9, p10, p11, h⟩ hcl hL hw
        refine o_load rfl (by rw [h.size]; decide) ((h.rest 4 (by decide) (by decide) (by decide) (by decide) (by decide) (by decide) (by decide) (by decide) (by decide) (by decide) (by decide) (by decide)).trans s4) h.xB ?_
        intro a' U hd
        exact ⟨_, _, _, h.at7 U hd (Below.refl _ _)⟩
      · rintro L a w1 ⟨p9, p10, p11, h⟩ hcl hL hw
        refine o_call2 (R := fun w' => Below w1.heap.size w1 w') rfl (by rw [h.size]; decide) (h.v6 (hw ⟨6, .data⟩ (by simp) rfl)) (h.v7 (hw ⟨7, .data⟩ (by simp) rfl)) callEqual (unhide E12 _ h.old) ?_
        intro a' w' hb U hd
        exact ⟨_, _, _, h.at8 U hd hb⟩
      · rintro L a w1 ⟨p9, p10, p11, h⟩ hcl hL hw
        have hs : L 12 = false := by
          cases e : L 12 with
          | false => rfl
          | true =>
            have := hcl 12 _ rfl e ⟨9, .data⟩ (by simp) rfl
            simp only [] at this
            rw [hL] at this
            cases this
        refine o_alloc rfl (by rw [h.size]; decide) ?_
        intro a' U hd
        exact ⟨_, _, _, h.at9 hs U hd⟩
      · rintro L a w1 ⟨p9, p10, p11, h⟩ hcl hL hw
        have hs : L 13 = false := by
          cases e : L 13 with
          | false => rfl
          | true =>
            have := hcl 13 _ rfl e ⟨10, .data⟩ (by simp) rfl
            simp only [] at this
            rw [hL] at this
            cases this
        refine o_alloc rfl (by rw [h.size]; decide) ?_
        intro a' U hd
        exact ⟨_, _, _, h.at10 hs U hd⟩
      · rintro L a w1 ⟨p9, p10, p11, h⟩ hcl hL hw
        have hs : L 14 = false := by
          cases e : L 14 with
          | false => rfl
          | true =>
            have := hcl 14 _ rfl e ⟨11, .data⟩ (by simp) rfl
            simp only [] at this
            rw [hL] at this
            cases this
        refine o_alloc rfl (by rw [h.size]; decide) ?_
        intro a' U hd
        exact ⟨_, _, _, h.at11 hs U hd⟩
      · rintro L a w1 ⟨p9, p10, p11, h⟩ hcl hL hw
        refine o_store2 rfl (h.q9 (hw ⟨9, .data⟩ (by simp) rfl)).1 (h.v2 (hw ⟨2, .data⟩ (by simp) rfl)) (h.z9 (hw ⟨9, .data⟩ (by simp) rfl) hL) ?_
        exact ⟨_, _, _, h.at12 hL (hw ⟨9, .data⟩ (by simp) rfl) (fun e => hcl 13 _ rfl e ⟨10, .data⟩ (by simp) rfl) (fun e => hcl 14 _ rfl e ⟨11, .data⟩ (by simp) rfl)⟩
      · rintro L a w1 ⟨p9, p10, p11, h⟩ hcl hL hw
        refine o_store2 rfl (h.q10 (hw ⟨10, .data⟩ (by simp) rfl)).1 (h.v5 (hw ⟨5, .data⟩ (by simp) rfl)) (h.z10 (hw ⟨10, .data⟩ (by simp) rfl) hL) ?_
        exact ⟨_, _, _, h.at13 hL (hw ⟨10, .data⟩ (by simp) rfl) (fun e => hcl 12 _ rfl e ⟨9, .data⟩ (by simp) rfl) (fun e => hcl 14 _ rfl e ⟨11, .data⟩ (by simp) rfl)⟩
      · rintro L a w1 ⟨p9, p10, p11, h⟩ hcl hL hw
        refine o_store2 rfl (h.q11 (hw ⟨11, .data⟩ (by simp) rfl)).1 (h.v8 (hw ⟨8, .data⟩ (by simp) rfl)) (h.z11 (hw ⟨11, .data⟩ (by simp) rfl) hL) ?_
        exact ⟨_, _, _, h.at14 hL (hw ⟨11, .data⟩ (by simp) rfl) (fun e => hcl 12 _ rfl e ⟨9, .data⟩ (by simp) rfl) (fun e => hcl 13 _ rfl e ⟨10, .data⟩ (by simp) rfl)⟩
    case done =>
      rintro L a w4 ⟨p9, p10, p11, h⟩ hall
      have h7 := h.q9 (hall 9 (by simp))
      have h8 := h.q10 (hall 10 (by simp))
      have h9 := h.q11 (hall 11 (by simp))
      have D := h.y9 (hall 12 (by simp))
      have E := h.y10 (hall 13 (by simp))
      have F := h.y11 (hall 14 (by simp))
      replace s3 := (h.rest 3 (by decide) (by decide) (by decide) (by decide) (by decide) (by decide) (by decide) (by decide) (by decide) (by decide) (by decide) (by decide)).trans s3
      replace s4 := (h.rest 4 (by decide) (by decide) (by decide) (by decide) (by decide) (by decide) (by decide) (by decide) (by decide) (by decide) (by decide) (by decide)).trans s4
      replace s5 := (h.rest 5 (by decide) (by decide) (by decide) (by decide) (by decide) (by decide) (by decide) (by decide) (by decide) (by decide) (by decide) (by decide)).trans s5
      replace A := h.xA
      replace B := h.xB
      replace C := h.xC
      replace hw := h.old
      replace hsz := h.size
      replace hdf := h.defs
      clear h hall
      go_upto_region 6 with fail
      refine region_any (I := fun L a' w' => ∃ p6 p7, J6 w w4.heap.size a 3 y1 c1 x1 t1 m1 y2 c2 x2 t2 m2 y3 c3 x3 t3 m3 g1 g2 g3 g4 g5 p9 p10 p11 p6 p7 (L 0) (L 1) (L 2) (L 3) (L 4) (L 5) (L 6) (L 7) (L 8) (L 9) a' w') (by kernel_rfl) ?wait ?step ?done ?start
      case wait => exact ⟨by simp, by simp, by simp, by simp, by simp, by simp, by simp, by simp, by simp, by simp, trivial⟩
      case start =>
        exact ⟨0, 0, hsz, hdf, fun _ _ _ _ _ _ _ _ _ => rfl, fun z => (by cases z), fun z => (by cases z), fun z => (by cases z), fun z => (by cases z), fun z => (by cases z), fun z => (by cases z), fun z => (by cases z), fun z => (by cases z), fun z => (by cases z), fun z => (by cases z), fun z => (by cases z), fun z => (by cases z), fun z => (by cases z), A.keep (Below.refl _ _).drew A.low, A.low, B.keep (Below.refl _ _).drew B.low, B.low, C.keep (Below.refl _ _).drew C.low, C.low, D.keep (Below.refl _ _).drew D.low, D.low, E.keep (Below.refl _ _).drew E.low, E.low, F.keep (Below.refl _ _).drew F.low, F.low, hw.drew, hw.size, Nat.le_refl _⟩
      case step =>
        clear A B C D E F hw
        refine ⟨?_, ?_, ?_, ?_, ?_, ?_, ?_, ?_, ?_, ?_, trivial⟩
        · rintro L a w1 ⟨p6, p7, h⟩ hcl hL hw
          refine o_load rfl (by rw [h.size]; decide) ((h.rest 4 (by decide) (by decide) (by decide) (by decide) (by decide) (by decide) (by decide) (by decide)).trans s4) h.xB ?_
          intro a' U hd
          exact ⟨_, _, h.at0 U hd (Below.refl _ _)⟩
        · rintro L a w1 ⟨p6, p7, h⟩ hcl hL hw
          refine o_load rfl (by rw [h.size]; decide) ((h.rest 5 (by decide) (by decide) (by decide) (by decide) (by decide) (by decide) (by decide) (by decide)).trans s5) h.xC ?_
          intro a' U hd
          exact ⟨_, _, h.at1 U hd (Below.refl _ _)⟩
        · rintro L a w1 ⟨p6, p7, h⟩ hcl hL hw
          refine o_call2 (R := fun w' => Below w1.heap.size w1 w') rfl (by rw [h.size]; decide) (h.v0 (hw ⟨0, .data⟩ (by simp) rfl)) (h.v1 (hw ⟨1, .data⟩ (by simp) rfl)) callLess (unhide L23 _ h.old) ?_
          intro a' w' hb U hd
          exact ⟨_, _, h.at2 U hd hb⟩
        · rintro L a w1 ⟨p6, p7, h⟩ hcl hL hw
          refine o_load rfl (by rw [h.size]; decide) ((h.rest 3 (by decide) (by decide) (by decide) (by decide) (by decide) (by decide) (by decide) (by decide)).trans s3) h.xA ?_
          intro a' U hd
          exact ⟨_, _, h.at3 U hd (Below.refl _ _)⟩
        · rintro L a w1 ⟨p6, p7, h⟩ hcl hL hw
          refine o_load rfl (by rw [h.size]; decide) ((h.rest 5 (by decide) (by decide) (by decide) (by decide) (by decide) (by decide) (by decide) (by decide)).trans s5) h.xC ?_
          intro a' U hd
          exact ⟨_, _, h.at4 U hd (Below.refl _ _)⟩
        · rintro L a w1 ⟨p6, p7, h⟩ hcl hL hw
          refine o_call2 (R := fun w' => Below w1.heap.size w1 w') rfl (by rw [h.size]; decide) (h.v3 (hw ⟨3, .data⟩ (by simp) rfl)) (h.v4 (hw ⟨4, .data⟩ (by simp) rfl)) callLess (unhide L13 _ h.old) ?_
          intro a' w' hb U hd
          exact ⟨_, _, h.at5 U hd hb⟩
        · rintro L a w1 ⟨p6, p7, h⟩ hcl hL hw
          have hs : L 8 = false := by
            cases e : L 8 with
            | false => rfl
            | true =>
              have := hcl 8 _ rfl e ⟨6, .data⟩ (by simp) rfl
              simp only [] at this
              rw [hL] at this
              cases this
          refine o_alloc rfl (by rw [h.size]; decide) ?_
          intro a' U hd
          exact ⟨_, _, h.at6 hs U hd⟩
        · rintro L a w1 ⟨p6, p7, h⟩ hcl hL hw
          have hs : L 9 = false := by
            cases e : L 9 with
            | false => rfl
            | true =>
              have := hcl 9 _ rfl e ⟨7, .data⟩ (by simp) rfl
              simp only [] at this
              rw [hL] at this
              cases this
          refine o_alloc rfl (by rw [h.size]; decide) ?_
          intro a' U hd
          exact ⟨_, _, h.at7 hs U hd⟩
        · rintro L a w1 ⟨p6, p7, h⟩ hcl hL hw
          refine o_store2 rfl (h.q6 (hw ⟨6, .data⟩ (by simp) rfl)).1 (h.v2 (hw ⟨2, .data⟩ (by simp) rfl)) (h.z6 (hw ⟨6, .data⟩ (by simp) rfl) hL) ?_
          exact ⟨_, _, h.at8 hL (hw ⟨6, .data⟩ (by simp) rfl) (fun e => hcl 9 _ rfl e ⟨7, .data⟩ (by simp) rfl)⟩
        · rintro L a w1 ⟨p6, p7, h⟩ hcl hL hw
          refine o_store2 rfl (h.q7 (hw ⟨7, .data⟩ (by simp) rfl)).1 (h.v5 (hw ⟨5, .data⟩ (by simp) rfl)) (h.z7 (hw ⟨7, .data⟩ (by simp) rfl) hL) ?_
          exact ⟨_, _, h.at9 hL (hw ⟨7, .data⟩ (by simp) rfl) (fun e => hcl 8 _ rfl e ⟨6, .data⟩ (by simp) rfl)⟩
      case done =>
        rintro L' a' w5 ⟨p6, p7, h⟩ hall
        have i10 := (h.q6 (hall 6 (by simp))).1
        have i11 := (h.q7 (hall 7 (by simp))).1
        have i7 := (h.rest 7 (by decide) (by decide) (by decide) (by decide) (by decide) (by decide) (by decide) (by decide)).trans h7.1
        have i8 := (h.rest 8 (by decide) (by decide) (by decide) (by decide) (by decide) (by decide) (by decide) (by decide)).trans h8.1
        have i9 := (h.rest 9 (by decide) (by decide) (by decide) (by decide) (by decide) (by decide) (by decide) (by decide)).trans h9.1
        replace D := h.xD
        replace E := h.xE
        replace F := h.xF
        have X := h.y6 (hall 8 (by simp))
        have Y := h.y7 (hall 9 (by simp))
        replace hw := h.old
        replace hsz := h.size
        replace hdf := h.defs
        clear h hall s3 s4 s5 A B C h7 h8 h9 L12 L21 E12 L23 L13 W1 W2 W3
        go_upto_region 7 with fail
        refine frame_open hsz hdf ?_
        intro u0 u1 u2 u3 u4 u5 u6 u7 u8 u9 u10 u11 u12 u13 u14 u15 u16 u17 u18 u19 u20 u21 u22 u23 u24 u25 u26 u27 u28 u29 u30 u31 u32 u33 u34 u35 u36 u37 u38 u39 u40 u41 u42 u43 u44 u45 u46 u47 u48 u49 u50 u51 u52 u53 u54 u55 u56 u57 u58 u59 u60 u61 u62 u63 u64 u65 u66 u67 u68 u69 u70 u71 u72 u73 u74 u75 u76 u77 u78 u79 u80 u81 u82 u83 u84 u85 u86 u87 u88 u89 u90 u91 u92 u93 u94 u95 u96 u97 u98 u99 u100 u101 e7 e8 e9 e10 e11
        rw [i7] at e7
        rw [i8] at e8
        rw [i9] at e9
        rw [i10] at e10
        rw [i11] at e11
        subst e7 e8 e9 e10 e11
        clear i7 i8 i9 i10 i11 hsz hdf
        obtain ⟨a0, a1, a2, a3, a4, a5⟩ := D.tell
        obtain ⟨b0, b1, b2, b3, b4, b5⟩ := E.tell
        obtain ⟨e0, e1, e2, e3, e4, e5⟩ := F.tell
        rcases unhide one with ⟨rfl, rfl, rfl⟩ | ⟨rfl, rfl, rfl⟩ | ⟨rfl, rfl, rfl⟩
        · go_wp2_with fail
          have R0 := R3.new (w := w5) (t := 26) (g1 := true) (g2 := false) (g3 := false)
          go_loopw [12, 74] (fun n i wr => ((i = .int .i64 0 ∧ n = .int .i64 0) ∨ (i = .int .i64 1 ∧ n = .int .i64 1) ∨ (i = .int .i64 2 ∧ n = .int .i64 1) ∨ (i = .int .i64 3 ∧ n = .int .i64 1)) ∧ Hid (R3 wr w5.heap.size true false false) ∧ Hid (Box wr p9 (tb true)) ∧ Hid (Box wr p6 (tb g4)) ∧ Hid (Box wr p7 (tb g5)) ∧ Hid (Below w.heap.size w wr)) (fun _ i _ => 3 - (intOf i).toNat)
          case atStart => exact ⟨.inl ⟨rfl, rfl⟩, hide R0, hide D.over, hide X.over, hide Y.over, hide (hw.alloc hw.size _)⟩
          case round =>
            obtain ⟨hcase, HR, HD, HX, HY, HW⟩ := hrel
            clear R0 D E F X Y hw a0 a1 a2 a3 a4 a5 b0 b1 b2 b3 b4 b5 e0 e1 e2 e3 e4 e5
            rcases hcase with ⟨rfl, rfl⟩ | ⟨rfl, rfl⟩ | ⟨rfl, rfl⟩ | ⟨rfl, rfl⟩
            · obtain ⟨q0, q1, q2, q3, q4, q5⟩ := (unhide HR).at0
              go_wp2
              go_round
              case rel => exact ⟨.inr (.inl ⟨rfl, rfl⟩), hide (unhide HR).over, hide (unhide HD).over, hide (unhide HX).over, hide (unhide HY).over, hide ((unhide HW).alloc (unhide HW).size _)⟩
              case measure => simp [intOf]
            · obtain ⟨q0, q1, q2, q3, q4, q5⟩ := (unhide HR).at1
              go_wp2
              go_round
              case rel => exact ⟨.inr (.inr (.inl ⟨rfl, rfl⟩)), hide (unhide HR).over, hide (unhide HD).over, hide (unhide HX).over, hide (unhide HY).over, hide ((unhide HW).alloc (unhide HW).size _)⟩
              case measure => simp [intOf]
            · obtain ⟨q0, q1, q2, q3, q4, q5⟩ := (unhide HR).at2
              go_wp2
              go_round
              case rel => exact ⟨.inr (.inr (.inr ⟨rfl, rfl⟩)), hide (unhide HR).over, hide (unhide HD).over, hide (unhide HX).over, hide (unhide HY).over, hide ((unhide HW).alloc (unhide HW).size _)⟩
              case measure => simp [intOf]
            · obtain ⟨a0, a1, a2, a3, a4, a5⟩ := (unhide HD).tell
              obtain ⟨b0, b1, b2, b3, b4, b5⟩ := (unhide HX).tell
              obtain ⟨e0, e1, e2, e3, e4, e5⟩ := (unhide HY).tell
              cases g4
              · go_wp2
                go_ret
                exact ⟨rfl, unhide HW⟩
              · obtain rfl : g5 = true := by have := unhide tr; simpa using this
                go_wp2
                go_ret
                exact ⟨rfl, unhide HW⟩
        · go_wp2_with fail
          have R0 := R3.new (w := w5) (t := 26) (g1 := false) (g2 := true) (g3 := false)
          go_loopw [12, 74] (fun n i wr => ((i = .int .i64 0 ∧ n = .int .i64 0) ∨ (i = .int .i64 1 ∧ n = .int .i64 0) ∨ (i = .int .i64 2 ∧ n = .int .i64 1) ∨ (i = .int .i64 3 ∧ n = .int .i64 1)) ∧ Hid (R3 wr w5.heap.size false true false) ∧ Hid (Box wr p9 (tb false)) ∧ Hid (Box wr p6 (tb g4)) ∧ Hid (Box wr p7 (tb g5)) ∧ Hid (Below w.heap.size w wr)) (fun _ i _ => 3 - (intOf i).toNat)
          case atStart => exact ⟨.inl ⟨rfl, rfl⟩, hide R0, hide D.over, hide X.over, hide Y.over, hide (hw.alloc hw.size _)⟩
          case round =>
            obtain ⟨hcase, HR, HD, HX, HY, HW⟩ := hrel
            clear R0 D E F X Y hw a0 a1 a2 a3 a4 a5 b0 b1 b2 b3 b4 b5 e0 e1 e2 e3 e4 e5
            rcases hcase with ⟨rfl, rfl⟩ | ⟨rfl, rfl⟩ | ⟨rfl, rfl⟩ | ⟨rfl, rfl⟩
            · obtain ⟨q0, q1, q2, q3, q4, q5⟩ := (unhide HR).at0
              go_wp2
              go_round
              case rel => exact ⟨.inr (.inl ⟨rfl, rfl⟩), hide (unhide HR).over, hide (unhide HD).over, hide (unhide HX).over, hide (unhide HY).over, hide ((unhide HW).alloc (unhide HW).size _)⟩
              case measure => simp [intOf]
            · obtain ⟨q0, q1, q2, q3, q4, q5⟩ := (unhide HR).at1
              go_wp2
              go_round
              case rel => exact ⟨.inr (.inr (.inl ⟨rfl, rfl⟩)), hide (unhide HR).over, hide (unhide HD).over, hide (unhide HX).over, hide (unhide HY).over, hide ((unhide HW).alloc (unhide HW).size _)⟩
              case measure => simp [intOf]
            · obtain ⟨q0, q1, q2, q3, q4, q5⟩ := (unhide HR).at2
              go_wp2
              go_round
              case rel => exact ⟨.inr (.inr (.inr ⟨rfl, rfl⟩)), hide (unhide HR).over, hide (unhide HD).over, hide (unhide HX).over, hide (unhide HY).over, hide ((unhide HW).alloc (unhide HW).size _)⟩
              case measure => simp [intOf]
            · obtain ⟨a0, a1, a2, a3, a4, a5⟩ := (unhide HD).tell
              obtain ⟨b0, b1, b2, b3, b4, b5⟩ := (unhide HX).tell
              obtain ⟨e0, e1, e2, e3, e4, e5⟩ := (unhide HY).tell
              go_wp2
              go_ret
              exact ⟨rfl, unhide HW⟩
        · go_wp2_with fail
          have R0 := R3.new (w := w5) (t := 26) (g1 := false) (g2 := false) (g3 := true)
          go_loopw [12, 74] (fun n i wr => ((i = .int .i64 0 ∧ n = .int .i64 0) ∨ (i = .int .i64 1 ∧ n = .int .i64 0) ∨ (i = .int .i64 2 ∧ n = .int .i64 0) ∨ (i = .int .i64 3 ∧ n = .int .i64 1)) ∧ Hid (R3 wr w5.heap.size false false true) ∧ Hid (Box wr p9 (tb false)) ∧ Hid (Box wr p6 (tb g4)) ∧ Hid (Box wr p7 (tb g5)) ∧ Hid (Below w.heap.size w wr)) (fun _ i _ => 3 - (intOf i).toNat)
          case atStart => exact ⟨.inl ⟨rfl, rfl⟩, hide R0, hide D.over, hide X.over, hide Y.over, hide (hw.alloc hw.size _)⟩
          case round =>
            obtain ⟨hcase, HR, HD, HX, HY, HW⟩ := hrel
            clear R0 D E F X Y hw a0 a1 a2 a3 a4 a5 b0 b1 b2 b3 b4 b5 e0 e1 e2 e3 e4 e5
            rcases hcase with ⟨rfl, rfl⟩ | ⟨rfl, rfl⟩ | ⟨rfl, rfl⟩ | ⟨rfl, rfl⟩
            · obtain ⟨q0, q1, q2, q3, q4, q5⟩ := (unhide HR).at0
              go_wp2
              go_round
              case rel => exact ⟨.inr (.inl ⟨rfl, rfl⟩), hide (unhide HR).over, hide (unhide HD).over, hide (unhide HX).over, hide (unhide HY).over, hide ((unhide HW).alloc (unhide HW).size _)⟩
              case measure => simp [intOf]
            · obtain ⟨q0, q1, q2, q3, q4, q5⟩ := (unhide HR).at1
              go_wp2
              go_round
              case rel => exact ⟨.inr (.inr (.inl ⟨rfl, rfl⟩)), hide (unhide HR).over, hide (unhide HD).over, hide (unhide HX).over, hide (unhide HY).over, hide ((unhide HW).alloc (unhide HW).size _)⟩
              case measure => simp [intOf]
            · obtain ⟨q0, q1, q2, q3, q4, q5⟩ := (unhide HR).at2
              go_wp2
              go_round
              case rel => exact ⟨.inr (.inr (.inr ⟨rfl, rfl⟩)), hide (unhide HR).over, hide (unhide HD).over, hide (unhide HX).over, hide (unhide HY).over, hide ((unhide HW).alloc (unhide HW).size _)⟩
              case measure => simp [intOf]
            · obtain ⟨a0, a1, a2, a3, a4, a5⟩ := (unhide HD).tell
              obtain ⟨b0, b1, b2, b3, b4, b5⟩ := (unhide HX).tell
              obtain ⟨e0, e1, e2, e3, e4, e5⟩ := (unhide HY).tell
              go_wp2
              go_ret
              exact ⟨rfl, unhide HW⟩

  · go_enter Tryd.func3, Tryd.ntmps3
    go_wp2_with fail
    refine (alive_any _).mono ?_
    rintro e w0 ⟨rfl, hb⟩
    obtain ⟨A, B, C, hw⟩ := box3 hb
    clear hb
    obtain ⟨a0, a1, a2, a3, a4, a5⟩ := A.tell
    go_wp2_with fail
    refine (unhide W1 _ hw).mono ?_
    rintro e w1 ⟨rfl, hb⟩
    replace A := A.keep hb A.low
    replace B := B.keep hb B.low
    replace C := C.keep hb C.low
    replace hw := hw.trans (hb.mono hw.size)
    clear hb a0 a1 a2 a3 a4 a5
    obtain ⟨a0, a1, a2, a3, a4, a5⟩ := B.tell
    go_wp2_with fail
    refine (unhide W2 _ hw).mono ?_
    rintro e w2 ⟨rfl, hb⟩
    replace A := A.keep hb A.low
    replace B := B.keep hb B.low
    replace C := C.keep hb C.low
    replace hw := hw.trans (hb.mono hw.size)
    clear hb a0 a1 a2 a3 a4 a5
    obtain ⟨a0, a1, a2, a3, a4, a5⟩ := C.tell
    go_wp2_with fail
    refine (unhide W3 _ hw).mono ?_
    rintro e w3 ⟨rfl, hb⟩
    replace A := A.keep hb A.low
    replace B := B.keep hb B.low
    replace C := C.keep hb C.low
    replace hw := hw.trans (hb.mono hw.size)
    clear hb a0 a1 a2 a3 a4 a5
    obtain ⟨a0, a1, a2, a3, a4, a5⟩ := A.tell
    obtain ⟨b0, b1, b2, b3, b4, b5⟩ := B.tell
    obtain ⟨e0, e1, e2, e3, e4, e5⟩ := C.tell
    go_wp2_with fail
    clear a0 a1 a2 a3 a4 a5 b0 b1 b2 b3 b4 b5 e0 e1 e2 e3 e4 e5
    refine frame_intro (fun a => G a 3 = .pointer (some ⟨w.heap.size, 0, none⟩) ∧ G a 4 = .pointer (some ⟨w.heap.size + 1, 0, none⟩) ∧ G a 5 = .pointer (some ⟨w.heap.size + 1 + 1, 0, none⟩) ∧ a.tmps.size = 102 ∧ a.defers = []) ⟨rfl, rfl, rfl, rfl, rfl⟩ ?_
    rintro a0 ⟨s3, s4, s5, hsz, hdf⟩
    refine region_any (I := fun L a w' => ∃ p9 p10 p11, J5 w w3.heap.size a0 4 y1 c1 x1 t1 m1 y2 c2 x2 t2 m2 y3 c3 x3 t3 m3 g1 g2 g3 p9 p10 p11 (L 0) (L 1) (L 2) (L 3) (L 4) (L 5) (L 6) (L 7) (L 8) (L 9) (L 10) (L 11) (L 12) (L 13) (L 14) a w') (by kernel_rfl) ?wait ?step ?done ?start
    case wait => exact ⟨by simp, by simp, by simp, by simp, by simp, by simp, by simp, by simp, by simp, by simp, by simp, by simp, by simp, by simp, by simp, trivial⟩
    case start =>
      exact ⟨0, 0, 0, hsz, hdf, fun _ _ _ _ _ _ _ _ _ _ _ _ _ => rfl, fun z => (by cases z), fun z => (by cases z), fun z => (by cases z), fun z => (by cases z), fun z => (by cases z), fun z => (by cases z), fun z => (by cases z), fun z => (by cases z), fun z => (by cases z), fun z => (by cases z), fun z => (by cases z), fun z => (by cases z), fun z => (by cases z), fun z => (by cases z), fun z => (by cases z), fun z => (by cases z), fun z => (by cases z), fun z => (by cases z), fun z => (by cases z), fun z => (by cases z), fun z => (by cases z), A.keep (Below.refl _ _).drew A.low, A.low, B.keep (Below.refl _ _).drew B.low, B.low, C.keep (Below.refl _ _).drew C.low, C.low, hw.drew, hw.size, Nat.le_refl _⟩
    case step =>
      clear A B C hw
      refine ⟨?_, ?_, ?_, ?_, ?_, ?_, ?_, ?_, ?_, ?_, ?_, ?_, ?_, ?_, ?_, trivial⟩
      · rintro L a w1 ⟨p9, p10, p11, h⟩ hcl hL hw
        refine o_load rfl (by rw [h.size]; decide) ((h.rest 3 (by decide) (by decide) (by decide) (by decide) (by decide) (by decide) (by decide) (by decide) (by decide) (by decide) (by decide) (by decide)).trans s3) h.xA ?_
        intro a' U hd
        exact ⟨_, _, _, h.at0 U hd (Below.refl _ _)⟩
      · rintro L a w1 ⟨p9, p10, p11, h⟩ hcl hL hw
        refine o_load rfl (by rw [h.size]; decide) ((h.rest 4 (by decide) (by decide) (by decide) (by decide) (by decide) (by decide) (by decide) (by decide) (by decide) (by decide) (by decide) (by decide)).trans s4) h.xB ?_
        intro a' U hd
        exact ⟨_, _, _, h.at1 U hd (Below.refl _ _)⟩
      · rintro L a w1 ⟨p9, p10, p11, h⟩ hcl hL hw
        refine o_call2 (R := fun w' => Below w1.heap.size w1 w') rfl (by rw [h.size]; decide) (h.v0 (hw ⟨0, .data⟩ (by simp) rfl)) (h.v1 (hw ⟨1, .data⟩ (by simp) rfl)) callLess (unhide L12 _ h.old) ?_
        intro a' w' hb U hd
        exact ⟨_, _, _, h.at2 U hd hb⟩
      · rintro L a w1 ⟨p9, p10, p11, h⟩ hcl hL hw
        refine o_load rfl (by rw [h.size]; decide) ((h.rest 4 (by decide) (by decide) (by decide) (by decide) (by decide) (by decide) (by decide) (by decide) (by decide) (by decide) (by decide) (by decide)).trans s4) h.xB ?_
        intro a' U hd
        exact ⟨_, _, _, h.at3 U hd (Below.refl _ _)⟩
      · rintro L a w1 ⟨p9, p10, p11, h⟩ hcl hL hw
        refine o_load rfl (by rw [h.size]; decide) ((h.rest 3 (by decide) (by decide) (by decide) (by decide) (by decide) (by decide) (by decide) (by decide) (by decide) (by decide) (by decide) (by decide)).trans s3) h.xA ?_
        intro a' U hd
        exact ⟨_, _, _, h.at4 U hd (Below.refl _ _)⟩
      · rintro L a w1 ⟨p9, p10, p11, h⟩ hcl hL hw
        refine o_call2 (R := fun w' => Below w1.heap.size w1 w') rfl (by rw [h.size]; decide) (h.v3 (hw ⟨3, .data⟩ (by simp) rfl)) (h.v4 (hw ⟨4, .data⟩ (by simp) rfl)) callLess (unhide L21 _ h.old) ?_
        intro a' w' hb U hd
        exact ⟨_, _, _, h.at5 U hd hb⟩
      · rintro L a w1 ⟨p9, p10, p11, h⟩ hcl hL hw
        refine o_load rfl (by rw [h.size]; decide) ((h.rest 3 (by decide) (by decide) (by decide) (by decide) (by decide) (by decide) (by decide) (by decide) (by decide) (by decide) (by decide) (by decide)).trans s3) h.xA ?_
        intro a' U hd
        exact ⟨_, _, _, h.at6 U hd (Below.refl _ _)⟩
      · rintro L a w1 ⟨p9, p10, p11, h⟩ hcl hL hw
        refine o_load rfl (by rw [h.size]; decide) ((h.rest 4 (by decide) (by decide) (by decide) (by decide) (by decide) (by decide) (by decide) (by decide) (by decide) (by decide) (by decide) (by decide)).trans s4) h.xB ?_
        intro a' U hd
        exact ⟨_, _, _, h.at7 U hd (Below.refl _ _)⟩
      · rintro L a w1 ⟨p9, p10, p11, h⟩ hcl hL hw
        refine o_call2 (R := fun w' => Below w1.heap.size w1 w') rfl (by rw [h.size]; decide) (h.v6 (hw ⟨6, .data⟩ (by simp) rfl)) (h.v7 (hw ⟨7, .data⟩ (by simp) rfl)) callEqual (unhide E12 _ h.old) ?_
        intro a' w' hb U hd
        exact ⟨_, _, _, h.at8 U hd hb⟩
      · rintro L a w1 ⟨p9, p10, p11, h⟩ hcl hL hw
        have hs : L 12 = false := by
          cases e : L 12 with
          | false => rfl
          | true =>
            have := hcl 12 _ rfl e ⟨9, .data⟩ (by simp) rfl
            simp only [] at this
            rw [hL] at this
            cases this
        refine o_alloc rfl (by rw [h.size]; decide) ?_
        intro a' U hd
        exact ⟨_, _, _, h.at9 hs U hd⟩
      · rintro L a w1 ⟨p9, p10, p11, h⟩ hcl hL hw
        have hs : L 13 = false := by
          cases e : L 13 with
          | false => rfl
          | true =>
            have := hcl 13 _ rfl e ⟨10, .data⟩ (by simp) rfl
            simp only [] at this
            rw [hL] at this
            cases this
        refine o_alloc rfl (by rw [h.size]; decide) ?_
        intro a' U hd
        exact ⟨_, _, _, h.at10 hs U hd⟩
      · rintro L a w1 ⟨p9, p10, p11, h⟩ hcl hL hw
        have hs : L 14 = false := by
          cases e : L 14 with
          | false => rfl
          | true =>
            have := hcl 14 _ rfl e ⟨11, .data⟩ (by simp) rfl
            simp only [] at this
            rw [hL] at this
            cases this
        refine o_alloc rfl (by rw [h.size]; decide) ?_
        intro a' U hd
        exact ⟨_, _, _, h.at11 hs U hd⟩
      · rintro L a w1 ⟨p9, p10, p11, h⟩ hcl hL hw
        refine o_store2 rfl (h.q9 (hw ⟨9, .data⟩ (by simp) rfl)).1 (h.v2 (hw ⟨2, .data⟩ (by simp) rfl)) (h.z9 (hw ⟨9, .data⟩ (by simp) rfl) hL) ?_
        exact ⟨_, _, _, h.at12 hL (hw ⟨9, .data⟩ (by simp) rfl) (fun e => hcl 13 _ rfl e ⟨10, .data⟩ (by simp) rfl) (fun e => hcl 14 _ rfl e ⟨11, .data⟩ (by simp) rfl)⟩
      · rintro L a w1 ⟨p9, p10, p11, h⟩ hcl hL hw
        refine o_store2 rfl (h.q10 (hw ⟨10, .data⟩ (by simp) rfl)).1 (h.v5 (hw ⟨5, .data⟩ (by simp) rfl)) (h.z10 (hw ⟨10, .data⟩ (by simp) rfl) hL) ?_
        exact ⟨_, _, _, h.at13 hL (hw ⟨10, .data⟩ (by simp) rfl) (fun e => hcl 12 _ rfl e ⟨9, .data⟩ (by simp) rfl) (fun e => hcl 14 _ rfl e ⟨11, .data⟩ (by simp) rfl)⟩
      · rintro L a w1 ⟨p9, p10, p11, h⟩ hcl hL hw
        refine o_store2 rfl (h.q11 (hw ⟨11, .data⟩ (by simp) rfl)).1 (h.v8 (hw ⟨8, .data⟩ (by simp) rfl)) (h.z11 (hw ⟨11, .data⟩ (by simp) rfl) hL) ?_
        exact ⟨_, _, _, h.at14 hL (hw ⟨11, .data⟩ (by simp) rfl) (fun e => hcl 12 _ rfl e ⟨9, .data⟩ (by simp) rfl) (fun e => hcl 13 _ rfl e ⟨10, .data⟩ (by simp) rfl)⟩
    case done =>
      rintro L a w4 ⟨p9, p10, p11, h⟩ hall
      have h7 := h.q9 (hall 9 (by simp))
      have h8 := h.q10 (hall 10 (by simp))
      have h9 := h.q11 (hall 11 (by simp))
      have D := h.y9 (hall 12 (by simp))
      have E := h.y10 (hall 13 (by simp))
      have F := h.y11 (hall 14 (by simp))
      replace s3 := (h.rest 3 (by decide) (by decide) (by decide) (by decide) (by decide) (by decide) (by decide) (by decide) (by decide) (by decide) (by decide) (by decide)).trans s3
      replace s4 := (h.rest 4 (by decide) (by decide) (by decide) (by decide) (by decide) (by decide) (by decide) (by decide) (by decide) (by decide) (by decide) (by decide)).trans s4
      replace s5 := (h.rest 5 (by decide) (by decide) (by decide) (by decide) (by decide) (by decide) (by decide) (by decide) (by decide) (by decide) (by decide) (by decide)).trans s5
      replace A := h.xA
      replace B := h.xB
      replace C := h.xC
      replace hw := h.old
      replace hsz := h.size
      replace hdf := h.defs
      clear h hall
      go_upto_region 6 with fail
      refine region_any (I := fun L a' w' => ∃ p6 p7, J6 w w4.heap.size a 4 y1 c1 x1 t1 m1 y2 c2 x2 t2 m2 y3 c3 x3 t3 m3 g1 g2 g3 g4 g5 p9 p10 p11 p6 p7 (L 0) (L 1) (L 2) (L 3) (L 4) (L 5) (L 6) (L 7) (L 8) (L 9) a' w') (by kernel_rfl) ?wait ?step ?done ?start
      case wait => exact ⟨by simp, by simp, by simp, by simp, by simp, by simp, by simp, by simp, by simp, by simp, trivial⟩
      case start =>
        exact ⟨0, 0, hsz, hdf, fun _ _ _ _ _ _ _ _ _ => rfl, fun z => (by cases z), fun z => (by cases z), fun z => (by cases z), fun z => (by cases z), fun z => (by cases z), fun z => (by cases z), fun z => (by cases z), fun z => (by cases z), fun z => (by cases z), fun z => (by cases z), fun z => (by cases z), fun z => (by cases z), fun z => (by cases z), A.keep (Below.refl _ _).drew A.low, A.low, B.keep (Below.refl _ _).drew B.low, B.low, C.keep (Below.refl _ _).drew C.low, C.low, D.keep (Below.refl _ _).drew D.low, D.low, E.keep (Below.refl _ _).drew E.low, E.low, F.keep (Below.refl _ _).drew F.low, F.low, hw.drew, hw.size, Nat.le_refl _⟩
      case step =>
        clear A B C D E F hw
        refine ⟨?_, ?_, ?_, ?_, ?_, ?_, ?_, ?_, ?_, ?_, trivial⟩
        · rintro L a w1 ⟨p6, p7, h⟩ hcl hL hw
          refine o_load rfl (by rw [h.size]; decide) ((h.rest 4 (by decide) (by decide) (by decide) (by decide) (by decide) (by decide) (by decide) (by decide)).trans s4) h.xB ?_
          intro a' U hd
          exact ⟨_, _, h.at0 U hd (Below.refl _ _)⟩
        · rintro L a w1 ⟨p6, p7, h⟩ hcl hL hw
          refine o_load rfl (by rw [h.size]; decide) ((h.rest 5 (by decide) (by decide) (by decide) (by decide) (by decide) (by decide) (by decide) (by decide)).trans s5) h.xC ?_
          intro a' U hd
          exact ⟨_, _, h.at1 U hd (Below.refl _ _)⟩
        · rintro L a w1 ⟨p6, p7, h⟩ hcl hL hw
          refine o_call2 (R := fun w' => Below w1.heap.size w1 w') rfl (by rw [h.size]; decide) (h.v0 (hw ⟨0, .data⟩ (by simp) rfl)) (h.v1 (hw ⟨1, .data⟩ (by simp) rfl)) callLess (unhide L23 _ h.old) ?_
          intro a' w' hb U hd
          exact ⟨_, _, h.at2 U hd hb⟩
        · rintro L a w1 ⟨p6, p7, h⟩ hcl hL hw
          refine o_load rfl (by rw [h.size]; decide) ((h.rest 3 (by decide) (by decide) (by decide) (by decide) (by decide) (by decide) (by decide) (by decide)).trans s3) h.xA ?_
          intro a' U hd
          exact ⟨_, _, h.at3 U hd (Below.refl _ _)⟩
        · rintro L a w1 ⟨p6, p7, h⟩ hcl hL hw
          refine o_load rfl (by rw [h.size]; decide) ((h.rest 5 (by decide) (by decide) (by decide) (by decide) (by decide) (by decide) (by decide) (by decide)).trans s5) h.xC ?_
          intro a' U hd
          exact ⟨_, _, h.at4 U hd (Below.refl _ _)⟩
        · rintro L a w1 ⟨p6, p7, h⟩ hcl hL hw
          refine o_call2 (R := fun w' => Below w1.heap.size w1 w') rfl (by rw [h.size]; decide) (h.v3 (hw ⟨3, .data⟩ (by simp) rfl)) (h.v4 (hw ⟨4, .data⟩ (by simp) rfl)) callLess (unhide L13 _ h.old) ?_
          intro a' w' hb U hd
          exact ⟨_, _, h.at5 U hd hb⟩
        · rintro L a w1 ⟨p6, p7, h⟩ hcl hL hw
          have hs : L 8 = false := by
            cases e : L 8 with
            | false => rfl
            | true =>
              have := hcl 8 _ rfl e ⟨6, .data⟩ (by simp) rfl
              simp only [] at this
              rw [hL] at this
              cases this
          refine o_alloc rfl (by rw [h.size]; decide) ?_
          intro a' U hd
          exact ⟨_, _, h.at6 hs U hd⟩
        · rintro L a w1 ⟨p6, p7, h⟩ hcl hL hw
          have hs : L 9 = false := by
            cases e : L 9 with
            | false => rfl
            | true =>
              have := hcl 9 _ rfl e ⟨7, .data⟩ (by simp) rfl
              simp only [] at this
              rw [hL] at this
              cases this
          refine o_alloc rfl (by rw [h.size]; decide) ?_
          intro a' U hd
          exact ⟨_, _, h.at7 hs U hd⟩
        · rintro L a w1 ⟨p6, p7, h⟩ hcl hL hw
          refine o_store2 rfl (h.q6 (hw ⟨6, .data⟩ (by simp) rfl)).1 (h.v2 (hw ⟨2, .data⟩ (by simp) rfl)) (h.z6 (hw ⟨6, .data⟩ (by simp) rfl) hL) ?_
          exact ⟨_, _, h.at8 hL (hw ⟨6, .data⟩ (by simp) rfl) (fun e => hcl 9 _ rfl e ⟨7, .data⟩ (by simp) rfl)⟩
        · rintro L a w1 ⟨p6, p7, h⟩ hcl hL hw
          refine o_store2 rfl (h.q7 (hw ⟨7, .data⟩ (by simp) rfl)).1 (h.v5 (hw ⟨5, .data⟩ (by simp) rfl)) (h.z7 (hw ⟨7, .data⟩ (by simp) rfl) hL) ?_
          exact ⟨_, _, h.at9 hL (hw ⟨7, .data⟩ (by simp) rfl) (fun e => hcl 8 _ rfl e ⟨6, .data⟩ (by simp) rfl)⟩
      case done =>
        rintro L' a' w5 ⟨p6, p7, h⟩ hall
        have i10 := (h.q6 (hall 6 (by simp))).1
        have i11 := (h.q7 (hall 7 (by simp))).1
        have i7 := (h.rest 7 (by decide) (by decide) (by decide) (by decide) (by decide) (by decide) (by decide) (by decide)).trans h7.1
        have i8 := (h.rest 8 (by decide) (by decide) (by decide) (by decide) (by decide) (by decide) (by decide) (by decide)).trans h8.1
        have i9 := (h.rest 9 (by decide) (by decide) (by decide) (by decide) (by decide) (by decide) (by decide) (by decide)).trans h9.1
        replace D := h.xD
        replace E := h.xE
        replace F := h.xF
        have X := h.y6 (hall 8 (by simp))
        have Y := h.y7 (hall 9 (by simp))
        replace hw := h.old
        replace hsz := h.size
        replace hdf := h.defs
        clear h hall s3 s4 s5 A B C h7 h8 h9 L12 L21 E12 L23 L13 W1 W2 W3
        go_upto_region 7 with fail
        refine frame_open hsz hdf ?_
        intro u0 u1 u2 u3 u4 u5 u6 u7 u8 u9 u10 u11 u12 u13 u14 u15 u16 u17 u18 u19 u20 u21 u22 u23 u24 u25 u26 u27 u28 u29 u30 u31 u32 u33 u34 u35 u36 u37 u38 u39 u40 u41 u42 u43 u44 u45 u46 u47 u48 u49 u50 u51 u52 u53 u54 u55 u56 u57 u58 u59 u60 u61 u62 u63 u64 u65 u66 u67 u68 u69 u70 u71 u72 u73 u74 u75 u76 u77 u78 u79 u80 u81 u82 u83 u84 u85 u86 u87 u88 u89 u90 u91 u92 u93 u94 u95 u96 u97 u98 u99 u100 u101 e7 e8 e9 e10 e11
        rw [i7] at e7
        rw [i8] at e8
        rw [i9] at e9
        rw [i10] at e10
        rw [i11] at e11
        subst e7 e8 e9 e10 e11
        clear i7 i8 i9 i10 i11 hsz hdf
        obtain ⟨a0, a1, a2, a3, a4, a5⟩ := D.tell
        obtain ⟨b0, b1, b2, b3, b4, b5⟩ := E.tell
        obtain ⟨e0, e1, e2, e3, e4, e5⟩ := F.tell
        rcases unhide one with ⟨rfl, rfl, rfl⟩ | ⟨rfl, rfl, rfl⟩ | ⟨rfl, rfl, rfl⟩
        · go_wp2_with fail
          have R0 := R3.new (w := w5) (t := 26) (g1 := true) (g2 := false) (g3 := false)
          go_loopw [12, 74] (fun n i wr => ((i = .int .i64 0 ∧ n = .int .i64 0) ∨ (i = .int .i64 1 ∧ n = .int .i64 1) ∨ (i = .int .i64 2 ∧ n = .int .i64 1) ∨ (i = .int .i64 3 ∧ n = .int .i64 1)) ∧ Hid (R3 wr w5.heap.size true false false) ∧ Hid (Box wr p9 (tb true)) ∧ Hid (Box wr p6 (tb g4)) ∧ Hid (Box wr p7 (tb g5)) ∧ Hid (Below w.heap.size w wr)) (fun _ i _ => 3 - (intOf i).toNat)
          case atStart => exact ⟨.inl ⟨rfl, rfl⟩, hide R0, hide D.over, hide X.over, hide Y.over, hide (hw.alloc hw.size _)⟩
          case round =>
            obtain ⟨hcase, HR, HD, HX, HY, HW⟩ := hrel
            clear R0 D E F X Y hw a0 a1 a2 a3 a4 a5 b0 b1 b2 b3 b4 b5 e0 e1 e2 e3 e4 e5
            rcases hcase with ⟨rfl, rfl⟩ | ⟨rfl, rfl⟩ | ⟨rfl, rfl⟩ | ⟨rfl, rfl⟩
            · obtain ⟨q0, q1, q2, q3, q4, q5⟩ := (unhide HR).at0
              go_wp2
              go_round
              case rel => exact ⟨.inr (.inl ⟨rfl, rfl⟩), hide (unhide HR).over, hide (unhide HD).over, hide (unhide HX).over, hide (unhide HY).over, hide ((unhide HW).alloc (unhide HW).size _)⟩
              case measure => simp [intOf]
            · obtain ⟨q0, q1, q2, q3, q4, q5⟩ := (unhide HR).at1
              go_wp2
              go_round
              case rel => exact ⟨.inr (.inr (.inl ⟨rfl, rfl⟩)), hide (unhide HR).over, hide (unhide HD).over, hide (unhide HX).over, hide (unhide HY).over, hide ((unhide HW).alloc (unhide HW).size _)⟩
              case measure => simp [intOf]
            · obtain ⟨q0, q1, q2, q3, q4, q5⟩ := (unhide HR).at2
              go_wp2
              go_round
              case rel => exact ⟨.inr (.inr (.inr ⟨rfl, rfl⟩)), hide (unhide HR).over, hide (unhide HD).over, hide (unhide HX).over, hide (unhide HY).over, hide ((unhide HW).alloc (unhide HW).size _)⟩
              case measure => simp [intOf]
            · obtain ⟨a0, a1, a2, a3, a4, a5⟩ := (unhide HD).tell
              obtain ⟨b0, b1, b2, b3, b4, b5⟩ := (unhide HX).tell
              obtain ⟨e0, e1, e2, e3, e4, e5⟩ := (unhide HY).tell
              cases g4
              · go_wp2
                go_ret
                exact ⟨rfl, unhide HW⟩
              · obtain rfl : g5 = true := by have := unhide tr; simpa using this
                go_wp2
                go_ret
                exact ⟨rfl, unhide HW⟩
        · go_wp2_with fail
          have R0 := R3.new (w := w5) (t := 26) (g1 := false) (g2 := true) (g3 := false)
          go_loopw [12, 74] (fun n i wr => ((i = .int .i64 0 ∧ n = .int .i64 0) ∨ (i = .int .i64 1 ∧ n = .int .i64 0) ∨ (i = .int .i64 2 ∧ n = .int .i64 1) ∨ (i = .int .i64 3 ∧ n = .int .i64 1)) ∧ Hid (R3 wr w5.heap.size false true false) ∧ Hid (Box wr p9 (tb false)) ∧ Hid (Box wr p6 (tb g4)) ∧ Hid (Box wr p7 (tb g5)) ∧ Hid (Below w.heap.size w wr)) (fun _ i _ => 3 - (intOf i).toNat)
          case atStart => exact ⟨.inl ⟨rfl, rfl⟩, hide R0, hide D.over, hide X.over, hide Y.over, hide (hw.alloc hw.size _)⟩
          case round =>
            obtain ⟨hcase, HR, HD, HX, HY, HW⟩ := hrel
            clear R0 D E F X Y hw a0 a1 a2 a3 a4 a5 b0 b1 b2 b3 b4 b5 e0 e1 e2 e3 e4 e5
            rcases hcase with ⟨rfl, rfl⟩ | ⟨rfl, rfl⟩ | ⟨rfl, rfl⟩ | ⟨rfl, rfl⟩
            · obtain ⟨q0, q1, q2, q3, q4, q5⟩ := (unhide HR).at0
              go_wp2
              go_round
              case rel => exact ⟨.inr (.inl ⟨rfl, rfl⟩), hide (unhide HR).over, hide (unhide HD).over, hide (unhide HX).over, hide (unhide HY).over, hide ((unhide HW).alloc (unhide HW).size _)⟩
              case measure => simp [intOf]
            · obtain ⟨q0, q1, q2, q3, q4, q5⟩ := (unhide HR).at1
              go_wp2
              go_round
              case rel => exact ⟨.inr (.inr (.inl ⟨rfl, rfl⟩)), hide (unhide HR).over, hide (unhide HD).over, hide (unhide HX).over, hide (unhide HY).over, hide ((unhide HW).alloc (unhide HW).size _)⟩
              case measure => simp [intOf]
            · obtain ⟨q0, q1, q2, q3, q4, q5⟩ := (unhide HR).at2
              go_wp2
              go_round
              case rel => exact ⟨.inr (.inr (.inr ⟨rfl, rfl⟩)), hide (unhide HR).over, hide (unhide HD).over, hide (unhide HX).over, hide (unhide HY).over, hide ((unhide HW).alloc (unhide HW).size _)⟩
              case measure => simp [intOf]
            · obtain ⟨a0, a1, a2, a3, a4, a5⟩ := (unhide HD).tell
              obtain ⟨b0, b1, b2, b3, b4, b5⟩ := (unhide HX).tell
              obtain ⟨e0, e1, e2, e3, e4, e5⟩ := (unhide HY).tell
              go_wp2
              go_ret
              exact ⟨rfl, unhide HW⟩
        · go_wp2_with fail
          have R0 := R3.new (w := w5) (t := 26) (g1 := false) (g2 := false) (g3 := true)
          go_loopw [12, 74] (fun n i wr => ((i = .int .i64 0 ∧ n = .int .i64 0) ∨ (i = .int .i64 1 ∧ n = .int .i64 0) ∨ (i = .int .i64 2 ∧ n = .int .i64 0) ∨ (i = .int .i64 3 ∧ n = .int .i64 1)) ∧ Hid (R3 wr w5.heap.size false false true) ∧ Hid (Box wr p9 (tb false)) ∧ Hid (Box wr p6 (tb g4)) ∧ Hid (Box wr p7 (tb g5)) ∧ Hid (Below w.heap.size w wr)) (fun _ i _ => 3 - (intOf i).toNat)
          case atStart => exact ⟨.inl ⟨rfl, rfl⟩, hide R0, hide D.over, hide X.over, hide Y.over, hide (hw.alloc hw.size _)⟩
          case round =>
            obtain ⟨hcase, HR, HD, HX, HY, HW⟩ := hrel
            clear R0 D E F X Y hw a0 a1 a2 a3 a4 a5 b0 b1 b2 b3 b4 b5 e0 e1 e2 e3 e4 e5
            rcases hcase with ⟨rfl, rfl⟩ | ⟨rfl, rfl⟩ | ⟨rfl, rfl⟩ | ⟨rfl, rfl⟩
            · obtain ⟨q0, q1, q2, q3, q4, q5⟩ := (unhide HR).at0
              go_wp2
              go_round
              case rel => exact ⟨.inr (.inl ⟨rfl, rfl⟩), hide (unhide HR).over, hide (unhide HD).over, hide (unhide HX).over, hide (unhide HY).over, hide ((unhide HW).alloc (unhide HW).size _)⟩
              case measure => simp [intOf]
            · obtain ⟨q0, q1, q2, q3, q4, q5⟩ := (unhide HR).at1
              go_wp2
              go_round
              case rel => exact ⟨.inr (.inr (.inl ⟨rfl, rfl⟩)), hide (unhide HR).over, hide (unhide HD).over, hide (unhide HX).over, hide (unhide HY).over, hide ((unhide HW).alloc (unhide HW).size _)⟩
              case measure => simp [intOf]
            · obtain ⟨q0, q1, q2, q3, q4, q5⟩ := (unhide HR).at2
              go_wp2
              go_round
              case rel => exact ⟨.inr (.inr (.inr ⟨rfl, rfl⟩)), hide (unhide HR).over, hide (unhide HD).over, hide (unhide HX).over, hide (unhide HY).over, hide ((unhide HW).alloc (unhide HW).size _)⟩
              case measure => simp [intOf]
            · obtain ⟨a0, a1, a2, a3, a4, a5⟩ := (unhide HD).tell
              obtain ⟨b0, b1, b2, b3, b4, b5⟩ := (unhide HX).tell
              obtain ⟨e0, e1, e2, e3, e4, e5⟩ := (unhide HY).tell
              go_wp2
              go_ret
              exact ⟨rfl, unhide HW⟩

end Go.Proofs.YteniijhffinhnaaDoor
