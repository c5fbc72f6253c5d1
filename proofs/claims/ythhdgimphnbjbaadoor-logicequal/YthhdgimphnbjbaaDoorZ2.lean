/- The walk over LogicEqual of two right values. -/
import Derived.Test.YthhdgimphnbjbaaDoorZ1
namespace Go.Proofs.YthhdgimphnbjbaaDoor
open Go.RowKit

theorem frame_intro {P : Program} {code : Code} {Q : Exit → Act → World → Prop} {a0 : Act} {w : World} (S : Act → Prop) (h : S a0) (k : ∀ a, S a → Code.wp P code Q a w) : Code.wp P code Q a0 w := k a0 h
theorem frame_open {P : Program} {code : Code} {Q : Exit → Act → World → Prop} {a : Act} {w : World} (hs : a.tmps.size = 55) (hd : a.defers = [])
    (h : ∀ u0 u1 u2 u3 u4 u5 u6 u7 u8 u9 u10 u11 u12 u13 u14 u15 u16 u17 u18 u19 u20 u21 u22 u23 u24 u25 u26 u27 u28 u29 u30 u31 u32 u33 u34 u35 u36 u37 u38 u39 u40 u41 u42 u43 u44 u45 u46 u47 u48 u49 u50 u51 u52 u53 u54 : Value, u2 = G a 2 → u3 = G a 3 → u5 = G a 5 → u6 = G a 6 → u7 = G a 7 → Code.wp P code Q { tmps := #[u0, u1, u2, u3, u4, u5, u6, u7, u8, u9, u10, u11, u12, u13, u14, u15, u16, u17, u18, u19, u20, u21, u22, u23, u24, u25, u26, u27, u28, u29, u30, u31, u32, u33, u34, u35, u36, u37, u38, u39, u40, u41, u42, u43, u44, u45, u46, u47, u48, u49, u50, u51, u52, u53, u54], defers := [] } w) : Code.wp P code Q a w := by
  have e : a = { tmps := #[G a 0, G a 1, G a 2, G a 3, G a 4, G a 5, G a 6, G a 7, G a 8, G a 9, G a 10, G a 11, G a 12, G a 13, G a 14, G a 15, G a 16, G a 17, G a 18, G a 19, G a 20, G a 21, G a 22, G a 23, G a 24, G a 25, G a 26, G a 27, G a 28, G a 29, G a 30, G a 31, G a 32, G a 33, G a 34, G a 35, G a 36, G a 37, G a 38, G a 39, G a 40, G a 41, G a 42, G a 43, G a 44, G a 45, G a 46, G a 47, G a 48, G a 49, G a 50, G a 51, G a 52, G a 53, G a 54], defers := [] } := by
    cases a with
    | mk t d =>
      simp only at hs hd
      subst hd
      congr 1
      exact frame_eqs (a := ⟨t, []⟩) hs
  rw [e]
  exact h _ _ _ _ _ _ _ _ _ _ _ _ _ _ _ _ _ _ _ _ _ _ _ _ _ _ _ _ _ _ _ _ _ _ _ _ _ _ _ _ _ _ _ _ _ _ _ _ _ _ _ _ _ _ _ rfl rfl rfl rfl rfl

set_option maxRecDepth 20000 in
set_option maxHeartbeats 4000000 in
theorem law_ok (k1 : Int) (y1 : Bool) (c1 x1 : Int) (t1 m1 : Value) (k2 : Int) (y2 : Bool) (c2 x2 : Int) (t2 m2 : Value) (B1 B2 : Tree) (w : World) (g : Nat) (sb : Bool)
    (W1 : ∀ wx, Below w.heap.size w wx → Calls Tryd.prog 5 #[.agg (raw k1 y1 c1 x1 t1 m1)] wx fun e w' => e = .returned (.int .i64 0) ∧ Below wx.heap.size wx w')
    (W2 : ∀ wx, Below w.heap.size w wx → Calls Tryd.prog 5 #[.agg (raw k2 y2 c2 x2 t2 m2)] wx fun e w' => e = .returned (.int .i64 0) ∧ Below wx.heap.size wx w')
    (E12 : ∀ wx, Below w.heap.size w wx → Calls Tryd.prog 6 #[.agg (raw k1 y1 c1 x1 t1 m1), .agg (raw k2 y2 c2 x2 t2 m2)] wx fun e w' => ∃ v, e = .returned v ∧ v = told g ∧ Below wx.heap.size wx w')
    (E21 : ∀ wx, Below w.heap.size w wx → Calls Tryd.prog 6 #[.agg (raw k2 y2 c2 x2 t2 m2), .agg (raw k1 y1 c1 x1 t1 m1)] wx fun e w' => ∃ v, e = .returned v ∧ v = told g ∧ Below wx.heap.size wx w')
    (EB : ∀ wx x, Below w.heap.size w wx → Mem wx.heap.size wx B1 x → Calls Tryd.prog 6 #[.agg (raw k1 y1 c1 x1 t1 m1), .agg x] wx fun e w' => ∃ v, e = .returned v ∧ v = told 2 ∧ Below wx.heap.size wx w')
    (C1 : ∀ wx, Below w.heap.size w wx → Calls Tryd.prog 7 #[.agg (raw k1 y1 c1 x1 t1 m1)] wx fun e w' => ∃ v, e = .returned v ∧ MT B1 v w' ∧ Below wx.heap.size wx w')
    (C2 : ∀ wx, Below w.heap.size w wx → Calls Tryd.prog 7 #[.agg (raw k2 y2 c2 x2 t2 m2)] wx fun e w' => ∃ v, e = .returned v ∧ MT B2 v w' ∧ Below wx.heap.size wx w')
    (SM : ∀ wx x y, Below w.heap.size w wx → Mem wx.heap.size wx B1 x → Mem wx.heap.size wx B2 y → Calls Tryd.prog 8 #[.agg x, .agg y] wx fun e w' => ∃ v, e = .returned v ∧ v = .bool sb ∧ Below wx.heap.size wx w')
    (hfin : ((kd g == 2) && yd g) = sb) :
    Calls Tryd.prog 3 #[.agg (raw k1 y1 c1 x1 t1 m1), .agg (raw k2 y2 c2 x2 t2 m2)] w fun e w' => e = .returned (.bool true) ∧ Below w.heap.size w w' := by
  replace W1 := hide W1
  replace W2 := hide W2
  replace E12 := hide E12
  replace E21 := hide E21
  replace EB := hide EB
  replace C1 := hide C1
  replace C2 := hide C2
  replace SM := hide SM
  replace hfin := hide hfin
  go_enter Tryd.func3, Tryd.ntmps3
  go_wp2_with fail
  refine (alive_any _).mono ?_
  rintro e w0 ⟨rfl, hb⟩
  obtain ⟨A, B, hw⟩ := box2 hb
  clear hb
  obtain ⟨a0, a1, a2, a3, a4, a5⟩ := A.tell
  go_wp2_with fail
  refine (unhide W1 _ hw).mono ?_
  rintro e v1 ⟨rfl, hb⟩
  replace A := A.keep hb A.low
  replace B := B.keep hb B.low
  replace hw := hw.trans (hb.mono hw.size)
  clear hb a0 a1 a2 a3 a4 a5
  obtain ⟨a0, a1, a2, a3, a4, a5⟩ := B.tell
  go_wp2_with fail
  refine (unhide W2 _ hw).mono ?_
  rintro e v2 ⟨rfl, hb⟩
  replace A := A.keep hb A.low
  replace B := B.keep hb B.low
  replace hw := hw.trans (hb.mono hw.size)
  clear hb a0 a1 a2 a3 a4 a5
  go_wp2_with fail
  refine frame_intro (fun a => G a 2 = .pointer (some ⟨w.heap.size, 0, none⟩) ∧ G a 3 = .pointer (some ⟨w.heap.size + 1, 0, none⟩) ∧ a.tmps.size = 55 ∧ a.defers = []) ⟨rfl, rfl, rfl, rfl⟩ ?_
  rintro a0 ⟨s2, s3, hsz, hdf⟩
  refine region_any (I := I5 v2 a0 (raw k1 y1 c1 x1 t1 m1) (raw k2 y2 c2 x2 t2 m2) B1 g g 2) (by kernel_rfl) ?wait ?step ?done ?start
  case wait => exact ⟨by simp, by simp, by simp, by simp, by simp, by simp, by simp, by simp, by simp, by simp, by simp, by simp, by simp, by simp, by simp, by simp, trivial⟩
  case start => exact .inl ⟨rfl, rfl, rfl, RI.start hsz hdf ((Below.refl _ _).drew)⟩
  case step =>
    refine ⟨?_, ?_, ?_, ?_, ?_, ?_, ?_, ?_, ?_, ?_, ?_, ?_, ?_, ?_, ?_, ?_, trivial⟩
    · rintro L a wx (⟨n13, n14, n15, h⟩ | ⟨y13, yall, _⟩) hcl hL hw2
      case inr => exact absurd (yall 0 (by omega)) (by rw [hL]; decide)
      refine o_load rfl (by rw [h.size]; decide) ((h.keep (s := 2) (by decide)).trans s2) (A.keep h.old A.low) ?_
      intro a' U hd
      exact .inl ⟨by simpa using n13, by simpa using n14, by simpa using n15, h.step (by decide) (Ok5.mono _ _ _ _ _ _ _) 0 rfl U hd (Below.refl _ _) rfl (fun q => absurd q (by decide))⟩
    · rintro L a wx (⟨n13, n14, n15, h⟩ | ⟨y13, yall, _⟩) hcl hL hw2
      case inr => exact absurd (yall 1 (by omega)) (by rw [hL]; decide)
      refine o_load rfl (by rw [h.size]; decide) ((h.keep (s := 3) (by decide)).trans s3) (B.keep h.old B.low) ?_
      intro a' U hd
      exact .inl ⟨by simpa using n13, by simpa using n14, by simpa using n15, h.step (by decide) (Ok5.mono _ _ _ _ _ _ _) 1 rfl U hd (Below.refl _ _) rfl (fun q => absurd q (by decide))⟩
    · rintro L a wx (⟨n13, n14, n15, h⟩ | ⟨y13, yall, _⟩) hcl hL hw2
      case inr => exact absurd (yall 2 (by omega)) (by rw [hL]; decide)
      refine o_callx2 (R := fun v w' => v = told g ∧ Below wx.heap.size wx w') rfl (by rw [h.size]; decide) (h.got 0 18 (hw2 ⟨0, .data⟩ (by simp) rfl) rfl) (h.got 1 19 (hw2 ⟨1, .data⟩ (by simp) rfl) rfl) callEqual (unhide E12 _ (hw.trans (h.old.mono hw.size))) ?_
      rintro v a' w' ⟨ev, hb⟩ U hd
      exact .inl ⟨by simpa using n13, by simpa using n14, by simpa using n15, h.step (by decide) (Ok5.mono _ _ _ _ _ _ _) 2 rfl U hd hb ev (fun q => absurd q (by decide))⟩
    · rintro L a wx (⟨n13, n14, n15, h⟩ | ⟨y13, yall, _⟩) hcl hL hw2
      case inr => exact absurd (yall 3 (by omega)) (by rw [hL]; decide)
      refine o_load rfl (by rw [h.size]; decide) ((h.keep (s := 3) (by decide)).trans s3) (B.keep h.old B.low) ?_
      intro a' U hd
      exact .inl ⟨by simpa using n13, by simpa using n14, by simpa using n15, h.step (by decide) (Ok5.mono _ _ _ _ _ _ _) 3 rfl U hd (Below.refl _ _) rfl (fun q => absurd q (by decide))⟩
    · rintro L a wx (⟨n13, n14, n15, h⟩ | ⟨y13, yall, _⟩) hcl hL hw2
      case inr => exact absurd (yall 4 (by omega)) (by rw [hL]; decide)
      refine o_load rfl (by rw [h.size]; decide) ((h.keep (s := 2) (by decide)).trans s2) (A.keep h.old A.low) ?_
      intro a' U hd
      exact .inl ⟨by simpa using n13, by simpa using n14, by simpa using n15, h.step (by decide) (Ok5.mono _ _ _ _ _ _ _) 4 rfl U hd (Below.refl _ _) rfl (fun q => absurd q (by decide))⟩
    · rintro L a wx (⟨n13, n14, n15, h⟩ | ⟨y13, yall, _⟩) hcl hL hw2
      case inr => exact absurd (yall 5 (by omega)) (by rw [hL]; decide)
      refine o_callx2 (R := fun v w' => v = told g ∧ Below wx.heap.size wx w') rfl (by rw [h.size]; decide) (h.got 3 21 (hw2 ⟨3, .data⟩ (by simp) rfl) rfl) (h.got 4 22 (hw2 ⟨4, .data⟩ (by simp) rfl) rfl) callEqual (unhide E21 _ (hw.trans (h.old.mono hw.size))) ?_
      rintro v a' w' ⟨ev, hb⟩ U hd
      exact .inl ⟨by simpa using n13, by simpa using n14, by simpa using n15, h.step (by decide) (Ok5.mono _ _ _ _ _ _ _) 5 rfl U hd hb ev (fun q => absurd q (by decide))⟩
    · rintro L a wx (⟨n13, n14, n15, h⟩ | ⟨y13, yall, _⟩) hcl hL hw2
      case inr => exact absurd (yall 6 (by omega)) (by rw [hL]; decide)
      refine o_load rfl (by rw [h.size]; decide) ((h.keep (s := 2) (by decide)).trans s2) (A.keep h.old A.low) ?_
      intro a' U hd
      exact .inl ⟨by simpa using n13, by simpa using n14, by simpa using n15, h.step (by decide) (Ok5.mono _ _ _ _ _ _ _) 6 rfl U hd (Below.refl _ _) rfl (fun q => absurd q (by decide))⟩
    · rintro L a wx (⟨n13, n14, n15, h⟩ | ⟨y13, yall, _⟩) hcl hL hw2
      case inr => exact absurd (yall 7 (by omega)) (by rw [hL]; decide)
      refine o_load rfl (by rw [h.size]; decide) ((h.keep (s := 2) (by decide)).trans s2) (A.keep h.old A.low) ?_
      intro a' U hd
      exact .inl ⟨by simpa using n13, by simpa using n14, by simpa using n15, h.step (by decide) (Ok5.mono _ _ _ _ _ _ _) 7 rfl U hd (Below.refl _ _) rfl (fun q => absurd q (by decide))⟩
    · rintro L a wx (⟨n13, n14, n15, h⟩ | ⟨y13, yall, _⟩) hcl hL hw2
      case inr => exact absurd (yall 8 (by omega)) (by rw [hL]; decide)
      refine o_callx1 (R := fun v w' => MT B1 v w' ∧ Below wx.heap.size wx w') rfl (by rw [h.size]; decide) (h.got 7 25 (hw2 ⟨7, .data⟩ (by simp) rfl) rfl) callBare (unhide C1 _ (hw.trans (h.old.mono hw.size))) ?_
      rintro v a' w' ⟨ev, hb⟩ U hd
      exact .inl ⟨by simpa using n13, by simpa using n14, by simpa using n15, h.step (by decide) (Ok5.mono _ _ _ _ _ _ _) 8 rfl U hd hb ev (fun q => absurd q (by decide))⟩
    · rintro L a wx (⟨n13, n14, n15, h⟩ | ⟨y13, yall, _⟩) hcl hL hw2
      case inr => exact absurd (yall 9 (by omega)) (by rw [hL]; decide)
      obtain ⟨xb, hxb, hmb⟩ : MT B1 (G a 26) wx := (h.got 8 26 (hw2 ⟨8, .data⟩ (by simp) rfl) rfl)
      refine o_callx2 (R := fun v w' => v = told 2 ∧ Below wx.heap.size wx w') rfl (by rw [h.size]; decide) (h.got 6 24 (hw2 ⟨6, .data⟩ (by simp) rfl) rfl) hxb callEqual (unhide EB _ _ (hw.trans (h.old.mono hw.size)) hmb) ?_
      rintro v a' w' ⟨ev, hb⟩ U hd
      exact .inl ⟨by simpa using n13, by simpa using n14, by simpa using n15, h.step (by decide) (Ok5.mono _ _ _ _ _ _ _) 9 rfl U hd hb ev (fun q => absurd q (by decide))⟩
    · rintro L a wx (⟨n13, n14, n15, h⟩ | ⟨y13, yall, _⟩) hcl hL hw2
      case inr => exact absurd (yall 10 (by omega)) (by rw [hL]; decide)
      refine o_new rfl (by rw [h.size]; decide) ?_
      intro a' U hd
      have UN : ∀ j e, L j = true → Un5 j = true → D5[j]? = some e → Value.pointer (some ⟨wx.heap.size, 0, none⟩) ≠ G a e := by
        intro j e hj uj he q
        have ho := h.got j e hj he
        simp only [Un5, Bool.or_eq_true, beq_iff_eq] at uj
        have ho2 : PZ v2 (G a e) wx := by rcases uj with (rfl | rfl) | rfl <;> exact ho
        obtain ⟨pp, h1, h2, h3⟩ := ho2
        rw [← q] at h1
        have := h3.low
        simp at h1
      exact .inl ⟨by simpa using n13, by simpa using n14, by simpa using n15, h.step (by decide) (Ok5.mono _ _ _ _ _ _ _) 10 rfl U hd (below_new _ _) ⟨_, rfl, h.old.size, Box.new⟩ (fun _ => UN)⟩
    · rintro L a wx (⟨n13, n14, n15, h⟩ | ⟨y13, yall, _⟩) hcl hL hw2
      case inr => exact absurd (yall 11 (by omega)) (by rw [hL]; decide)
      refine o_new rfl (by rw [h.size]; decide) ?_
      intro a' U hd
      have UN : ∀ j e, L j = true → Un5 j = true → D5[j]? = some e → Value.pointer (some ⟨wx.heap.size, 0, none⟩) ≠ G a e := by
        intro j e hj uj he q
        have ho := h.got j e hj he
        simp only [Un5, Bool.or_eq_true, beq_iff_eq] at uj
        have ho2 : PZ v2 (G a e) wx := by rcases uj with (rfl | rfl) | rfl <;> exact ho
        obtain ⟨pp, h1, h2, h3⟩ := ho2
        rw [← q] at h1
        have := h3.low
        simp at h1
      exact .inl ⟨by simpa using n13, by simpa using n14, by simpa using n15, h.step (by decide) (Ok5.mono _ _ _ _ _ _ _) 11 rfl U hd (below_new _ _) ⟨_, rfl, h.old.size, Box.new⟩ (fun _ => UN)⟩
    · rintro L a wx (⟨n13, n14, n15, h⟩ | ⟨y13, yall, _⟩) hcl hL hw2
      case inr => exact absurd (yall 12 (by omega)) (by rw [hL]; decide)
      refine o_new rfl (by rw [h.size]; decide) ?_
      intro a' U hd
      have UN : ∀ j e, L j = true → Un5 j = true → D5[j]? = some e → Value.pointer (some ⟨wx.heap.size, 0, none⟩) ≠ G a e := by
        intro j e hj uj he q
        have ho := h.got j e hj he
        simp only [Un5, Bool.or_eq_true, beq_iff_eq] at uj
        have ho2 : PZ v2 (G a e) wx := by rcases uj with (rfl | rfl) | rfl <;> exact ho
        obtain ⟨pp, h1, h2, h3⟩ := ho2
        rw [← q] at h1
        have := h3.low
        simp at h1
      exact .inl ⟨by simpa using n13, by simpa using n14, by simpa using n15, h.step (by decide) (Ok5.mono _ _ _ _ _ _ _) 12 rfl U hd (below_new _ _) ⟨_, rfl, h.old.size, Box.new⟩ (fun _ => UN)⟩
    · rintro L a wx (⟨n13, n14, n15, h⟩ | ⟨y13, yall, _⟩) hcl hL hw2
      case inr => exact absurd y13 (by rw [hL]; decide)
      have l9 := hw2 ⟨9, .chain⟩ (by simp) rfl
      have l8 := hcl 9 _ rfl l9 ⟨8, .data⟩ (by simp) rfl
      have l7 := hcl 8 _ rfl l8 ⟨7, .data⟩ (by simp) rfl
      have l6 := hcl 9 _ rfl l9 ⟨6, .data⟩ (by simp) rfl
      have l5 := hcl 8 _ rfl l8 ⟨5, .chain⟩ (by simp) rfl
      have l4 := hcl 5 _ rfl l5 ⟨4, .data⟩ (by simp) rfl
      have l3 := hcl 5 _ rfl l5 ⟨3, .data⟩ (by simp) rfl
      have l2 := hw2 ⟨2, .data⟩ (by simp) rfl
      have l1 := hw2 ⟨1, .phase⟩ (by simp) rfl
      have l0 := hw2 ⟨0, .phase⟩ (by simp) rfl
      have l10 := hw2 ⟨10, .data⟩ (by simp) rfl
      have l11 := hw2 ⟨11, .phase⟩ (by simp) rfl
      have l12 := hw2 ⟨12, .phase⟩ (by simp) rfl
      simp only [] at l0 l1 l2 l3 l4 l5 l6 l7 l8 l9 l10 l11 l12
      obtain ⟨p, ep, lp, bp⟩ : PZ v2 (G a 5) wx := h.got 10 5 l10 rfl
      obtain ⟨q, eq, lq, bq⟩ : PZ v2 (G a 6) wx := h.got 11 6 l11 rfl
      obtain ⟨r, er, lr, br⟩ : PZ v2 (G a 7) wx := h.got 12 7 l12 rfl
      have npq : p ≠ q := fun e => h.uniq 10 11 5 6 l10 l11 rfl rfl (by decide) rfl rfl (by rw [ep, eq, e])
      have npr : p ≠ r := fun e => h.uniq 10 12 5 7 l10 l12 rfl rfl (by decide) rfl rfl (by rw [ep, er, e])
      have nqr : q ≠ r := fun e => h.uniq 11 12 6 7 l11 l12 rfl rfl (by decide) rfl rfl (by rw [eq, er, e])
      refine o_store rfl ep (h.got 2 20 l2 rfl) bp ?_
      refine .inr ⟨by simp, fun j hj => ?_, p, q, r, h.size, h.defs, h.keep (by decide), h.keep (by decide), ep, eq, er, h.got 5 23 l5 rfl, h.got 9 27 l9 rfl, lp, lq, lr, npq, npr, nqr, bp.put _ _ _ _ _ _, fun _ => bq.aside6 npq, fun e => absurd e (by simp [n14]), fun _ => br.aside6 npr, fun e => absurd e (by simp [n15]), below_put6 h.old lp⟩
      rcases (by omega : j = 0 ∨ j = 1 ∨ j = 2 ∨ j = 3 ∨ j = 4 ∨ j = 5 ∨ j = 6 ∨ j = 7 ∨ j = 8 ∨ j = 9 ∨ j = 10 ∨ j = 11 ∨ j = 12) with rfl | rfl | rfl | rfl | rfl | rfl | rfl | rfl | rfl | rfl | rfl | rfl | rfl <;> simp [*]
    · rintro L a wx (⟨n13, _⟩ | ⟨y13, yall, p, q, r, h⟩) hcl hL hw2
      case inl => exact absurd (hw2 ⟨13, .chain⟩ (by simp) rfl) (by simp [n13])
      have n15 : L 15 = false := by
        cases e : L 15 with
        | false => rfl
        | true =>
          have := hcl 15 _ rfl e ⟨14, .chain⟩ (by simp) rfl
          simp only [] at this
          rw [hL] at this
          cases this
      refine o_store rfl h.sq h.v2 (h.bq0 hL) ?_
      exact .inr ⟨by simp [y13], fun j hj => by simp [yall j hj], p, q, r, h.size, h.defs, h.s2, h.s3, h.sp, h.sq, h.sr, h.v2, h.v3, h.lp, h.lq, h.lr, h.pq, h.pr, h.qr, h.bp.aside6 (Ne.symm h.pq), fun e => absurd e (by simp), fun _ => (h.bq0 hL).put _ _ _ _ _ _, fun _ => (h.br0 n15).aside6 h.qr, fun e => absurd e (by simp [n15]), below_put6 h.old h.lq⟩
    · rintro L a wx (⟨n13, _⟩ | ⟨y13, yall, p, q, r, h⟩) hcl hL hw2
      case inl => exact absurd (hw2 ⟨13, .phase⟩ (by simp) rfl) (by simp [n13])
      have y14 := hw2 ⟨14, .chain⟩ (by simp) rfl
      simp only [] at y14
      refine o_store rfl h.sr h.v3 (h.br0 hL) ?_
      exact .inr ⟨by simp [y13], fun j hj => by simp [yall j hj], p, q, r, h.size, h.defs, h.s2, h.s3, h.sp, h.sq, h.sr, h.v2, h.v3, h.lp, h.lq, h.lr, h.pq, h.pr, h.qr, h.bp.aside6 (Ne.symm h.pr), fun e => absurd e (by simp [y14]), fun _ => (h.bq1 y14).aside6 (Ne.symm h.qr), fun e => absurd e (by simp), fun _ => (h.br0 hL).put _ _ _ _ _ _, below_put6 h.old h.lr⟩
  case done =>
    rintro L a wx hI hall
    rcases hI with ⟨n13, _⟩ | ⟨_, _, p, q, r, h⟩
    · exact absurd (hall 13 (by simp)) (by rw [n13]; decide)
    replace hw := hw.trans (h.old.mono hw.size)
    have P := h.bp
    have Q' := h.bq1 (hall 14 (by simp))
    have R := h.br1 (hall 15 (by simp))
    replace s2 := h.s2.trans s2
    replace s3 := h.s3.trans s3
    have s5 := h.sp
    have s6 := h.sq
    have s7 := h.sr
    replace hsz := h.size
    replace hdf := h.defs
    replace A := A.keep h.old A.low
    replace B := B.keep h.old B.low
    have lp := h.lp
    clear h hall
    go_upto_region 6 with fail
    refine frame_open hsz hdf ?_
    intro u0 u1 u2 u3 u4 u5 u6 u7 u8 u9 u10 u11 u12 u13 u14 u15 u16 u17 u18 u19 u20 u21 u22 u23 u24 u25 u26 u27 u28 u29 u30 u31 u32 u33 u34 u35 u36 u37 u38 u39 u40 u41 u42 u43 u44 u45 u46 u47 u48 u49 u50 u51 u52 u53 u54 q2 q3 q5 q6 q7
    rw [s2] at q2
    rw [s3] at q3
    rw [s5] at q5
    rw [s6] at q6
    rw [s7] at q7
    subst q2 q3 q5 q6 q7
    clear s2 s3 s5 s6 s7 hsz hdf
    obtain ⟨a0, a1, a2, a3, a4, a5⟩ := P.tell
    obtain ⟨b0, b1, b2, b3, b4, b5⟩ := Q'.tell
    go_wp2_with fail
    refine (same_told g _).mono ?_
    rintro e wy ⟨rfl, hb⟩
    replace A := A.keep hb A.low
    replace B := B.keep hb B.low
    replace P := P.keep hb P.low
    replace R := R.keep hb R.low
    replace hw := hw.trans (hb.mono hw.size)
    clear hb a0 a1 a2 a3 a4 a5 b0 b1 b2 b3 b4 b5 Q'
    obtain ⟨a0, a1, a2, a3, a4, a5⟩ := R.tell
    simp only [kd, yd] at a0 a1
    go_wp2_with fail
    clear a0 a1 a2 a3 a4 a5 R
    refine frame_intro (fun a => G a 2 = .pointer (some ⟨w.heap.size, 0, none⟩) ∧ G a 3 = .pointer (some ⟨w.heap.size + 1, 0, none⟩) ∧ G a 5 = .pointer (some ⟨p, 0, none⟩) ∧ a.tmps.size = 55 ∧ a.defers = []) ⟨rfl, rfl, rfl, rfl, rfl⟩ ?_
    rintro a1 ⟨s2, s3, s5, hsz, hdf⟩
    refine region_any (I := RI wy a1 55 D8 (Ok8 (raw k1 y1 c1 x1 t1 m1) (raw k2 y2 c2 x2 t2 m2) B1 B2 p (kd g) (yd g) sb) (fun _ => false)) (by kernel_rfl) ?wait ?step ?done ?start
    case wait => exact ⟨by simp, by simp, by simp, by simp, by simp, by simp, by simp, by simp, by simp, by simp, by simp, by simp, by simp, by simp, trivial⟩
    case start => exact RI.start hsz hdf ((Below.refl _ _).drew)
    case done =>
      rintro L a2 wz h hall
      have f4 : G a2 4 = .bool true := h.got 13 4 (hall 13 (by simp)) rfl
      have hz := hw.trans (h.old.mono hw.size)
      have hdf2 := h.defs
      clear h
      go_wp2
      have e4 : a2.tmps[4]?.getD undef = .bool true := by simpa [G, Array.getD_eq_getD_getElem?] using f4
      exact bodyPost_ret (v := .bool true) (by simp [results, Tryd.results3, go_sem, e4]) hdf2 ⟨rfl, hz⟩
    case step =>
      refine ⟨?_, ?_, ?_, ?_, ?_, ?_, ?_, ?_, ?_, ?_, ?_, ?_, ?_, ?_, trivial⟩
      · rintro L a wx h hcl hL hw2
        have e5 := eval_G ((h.keep (s := 5) (by decide)).trans s5)
        refine o_val rfl rfl rfl (by rw [h.size]; decide) (v := .pointer (some ⟨p, 0, none⟩)) (w' := wx) ?_ ?_
        · generalize a.eval = E at *
          simp [go_sem, e5]
        · intro a' U hd
          exact h.step (by decide) (Ok8.mono _ _ _ _ _ _ _ _) 0 rfl U hd (Below.refl _ _) rfl (fun q => absurd q (by decide))
      · rintro L a wx h hcl hL hw2
        have e0 := eval_G (h.got 0 42 (hw2 ⟨0, .data⟩ (by simp) rfl) rfl)
        have c0 := (P.keep h.old P.low).at0
        refine o_val rfl rfl rfl (by rw [h.size]; decide) (v := .int .i64 (kd g)) (w' := wx) ?_ ?_
        · generalize a.eval = E at *
          simp [go_sem, e0, c0]
        · intro a' U hd
          exact h.step (by decide) (Ok8.mono _ _ _ _ _ _ _ _) 1 rfl U hd (Below.refl _ _) rfl (fun q => absurd q (by decide))
      · rintro L a wx h hcl hL hw2
        have ec : a.eval (.const (.int .i64 2)) = .int .i64 2 := rfl
        have e1 := eval_G (h.got 1 43 (hw2 ⟨1, .data⟩ (by simp) rfl) rfl)
        refine o_val rfl rfl rfl (by rw [h.size]; decide) (v := .bool (kd g == 2)) (w' := wx) ?_ ?_
        · generalize a.eval = E at *
          simp [go_sem, e1, ec]
        · intro a' U hd
          exact h.step (by decide) (Ok8.mono _ _ _ _ _ _ _ _) 2 rfl U hd (Below.refl _ _) rfl (fun q => absurd q (by decide))
      · rintro L a wx h hcl hL hw2
        have e2 := eval_G (h.got 2 44 (hw2 ⟨2, .data⟩ (by simp) rfl) rfl)
        refine o_val rfl rfl rfl (by rw [h.size]; decide) (v := .bool (kd g == 2)) (w' := wx) ?_ ?_
        · generalize a.eval = E at *
          simp [go_sem, e2]
        · intro a' U hd
          exact h.step (by decide) (Ok8.mono _ _ _ _ _ _ _ _) 3 rfl U hd (Below.refl _ _) rfl (fun q => absurd q (by decide))
      · rintro L a wx h hcl hL hw2
        have g3 : G a 45 = .bool (kd g == 2) := (h.got 3 45 (hw2 ⟨3, .guard⟩ (by simp) rfl) rfl)
        by_cases hk : (kd g == 2) = true
        · skip
          have e5 := eval_G ((h.keep (s := 5) (by decide)).trans s5)
          refine o_val rfl rfl ?hw (by rw [h.size]; decide) (v := .pointer (some ⟨p, 1, none⟩)) (w' := wx) ?_ ?_
          case hw => rw [wanted_is (j := 3) (dj := 45) (c := true) rfl rfl (by rw [h.size]; decide) g3, hk]; rfl
          · generalize a.eval = E at *
            simp [go_sem, e5]
          · intro a' U hd
            exact h.step (by decide) (Ok8.mono _ _ _ _ _ _ _ _) 4 rfl U hd (Below.refl _ _) (fun _ => rfl) (fun q => absurd q (by decide))
        · have hk2 : (kd g == 2) = false := by simpa using hk
          refine o_skip rfl rfl (?hw) (by rw [h.size]; decide) ?_
          case hw => rw [wanted_is (j := 3) (dj := 45) (c := true) rfl rfl (by rw [h.size]; decide) g3, hk2]; rfl
          intro a' U hd
          exact h.step (by decide) (Ok8.mono _ _ _ _ _ _ _ _) 4 rfl U hd (Below.refl _ _) (fun q => absurd q hk) (fun q => absurd q (by decide))
      · rintro L a wx h hcl hL hw2
        have g3 : G a 45 = .bool (kd g == 2) := (h.got 3 45 (hw2 ⟨3, .guard⟩ (by simp) rfl) rfl)
        by_cases hk : (kd g == 2) = true
        · skip
          have e4 := eval_G ((h.got 4 46 (hw2 ⟨4, .data⟩ (by simp) rfl) rfl) hk)
          have c1 := (P.keep h.old P.low).at1
          refine o_val rfl rfl ?hw (by rw [h.size]; decide) (v := .bool (yd g)) (w' := wx) ?_ ?_
          case hw => rw [wanted_is (j := 3) (dj := 45) (c := true) rfl rfl (by rw [h.size]; decide) g3, hk]; rfl
          · generalize a.eval = E at *
            simp [go_sem, e4, c1]
          · intro a' U hd
            exact h.step (by decide) (Ok8.mono _ _ _ _ _ _ _ _) 5 rfl U hd (Below.refl _ _) (fun _ => rfl) (fun q => absurd q (by decide))
        · have hk2 : (kd g == 2) = false := by simpa using hk
          refine o_skip rfl rfl (?hw) (by rw [h.size]; decide) ?_
          case hw => rw [wanted_is (j := 3) (dj := 45) (c := true) rfl rfl (by rw [h.size]; decide) g3, hk2]; rfl
          intro a' U hd
          exact h.step (by decide) (Ok8.mono _ _ _ _ _ _ _ _) 5 rfl U hd (Below.refl _ _) (fun q => absurd q hk) (fun q => absurd q (by decide))
      · rintro L a wx h hcl hL hw2
        have e3 := eval_G (h.got 3 45 (hw2 ⟨3, .data⟩ (by simp) rfl) rfl)
        have e5 : (kd g == 2) = true → a.eval (.tmp 47) = .bool (yd g) := fun q => eval_G ((h.got 5 47 (hw2 ⟨5, .data⟩ (by simp) rfl) rfl) q)
        refine o_val rfl rfl rfl (by rw [h.size]; decide) (v := .bool ((kd g == 2) && yd g)) (w' := wx) ?_ ?_
        · have ec : a.eval (.const (.bool false)) = .bool false := rfl
          by_cases hk : (kd g == 2) = true
          · have e5' := e5 hk
            rw [hk] at e3 ⊢
            clear e5
            generalize a.eval = E at *
            simp [go_sem, e3, e5']
          · have hk2 : (kd g == 2) = false := by simpa using hk
            rw [hk2] at e3 ⊢
            clear e5
            generalize a.eval = E at *
            simp [go_sem, e3, ec]
        · intro a' U hd
          exact h.step (by decide) (Ok8.mono _ _ _ _ _ _ _ _) 6 rfl U hd (Below.refl _ _) rfl (fun q => absurd q (by decide))
      · rintro L a wx h hcl hL hw2
        refine o_load rfl (by rw [h.size]; decide) ((h.keep (s := 2) (by decide)).trans s2) (A.keep h.old A.low) ?_
        intro a' U hd
        exact h.step (by decide) (Ok8.mono _ _ _ _ _ _ _ _) 7 rfl U hd (Below.refl _ _) rfl (fun q => absurd q (by decide))
      · rintro L a wx h hcl hL hw2
        refine o_callx1 (R := fun v w' => MT B1 v w' ∧ Below wx.heap.size wx w') rfl (by rw [h.size]; decide) (h.got 7 49 (hw2 ⟨7, .data⟩ (by simp) rfl) rfl) callBare (unhide C1 _ (hw.trans (h.old.mono hw.size))) ?_
        rintro v a' w' ⟨ev, hb⟩ U hd
        exact h.step (by decide) (Ok8.mono _ _ _ _ _ _ _ _) 8 rfl U hd hb ev (fun q => absurd q (by decide))
      · rintro L a wx h hcl hL hw2
        refine o_load rfl (by rw [h.size]; decide) ((h.keep (s := 3) (by decide)).trans s3) (B.keep h.old B.low) ?_
        intro a' U hd
        exact h.step (by decide) (Ok8.mono _ _ _ _ _ _ _ _) 9 rfl U hd (Below.refl _ _) rfl (fun q => absurd q (by decide))
      · rintro L a wx h hcl hL hw2
        refine o_callx1 (R := fun v w' => MT B2 v w' ∧ Below wx.heap.size wx w') rfl (by rw [h.size]; decide) (h.got 9 51 (hw2 ⟨9, .data⟩ (by simp) rfl) rfl) callBare (unhide C2 _ (hw.trans (h.old.mono hw.size))) ?_
        rintro v a' w' ⟨ev, hb⟩ U hd
        exact h.step (by decide) (Ok8.mono _ _ _ _ _ _ _ _) 10 rfl U hd hb ev (fun q => absurd q (by decide))
      · rintro L a wx h hcl hL hw2
        obtain ⟨x1, hx1, hm1⟩ : MT B1 (G a 50) wx := (h.got 8 50 (hw2 ⟨8, .data⟩ (by simp) rfl) rfl)
        obtain ⟨x2, hx2, hm2⟩ : MT B2 (G a 52) wx := (h.got 10 52 (hw2 ⟨10, .data⟩ (by simp) rfl) rfl)
        refine o_callx2 (R := fun v w' => v = .bool sb ∧ Below wx.heap.size wx w') rfl (by rw [h.size]; decide) hx1 hx2 callSame (unhide SM _ _ _ (hw.trans (h.old.mono hw.size)) hm1 hm2) ?_
        rintro v a' w' ⟨ev, hb⟩ U hd
        exact h.step (by decide) (Ok8.mono _ _ _ _ _ _ _ _) 11 rfl U hd hb ev (fun q => absurd q (by decide))
      · rintro L a wx h hcl hL hw2
        have e6 := eval_G (h.got 6 48 (hw2 ⟨6, .data⟩ (by simp) rfl) rfl)
        have e11 := eval_G (h.got 11 53 (hw2 ⟨11, .data⟩ (by simp) rfl) rfl)
        rw [unhide hfin] at e6
        refine o_val rfl rfl rfl (by rw [h.size]; decide) (v := .bool true) (w' := wx) ?_ ?_
        · generalize a.eval = E at *
          simp [go_sem, e6, e11]
        · intro a' U hd
          exact h.step (by decide) (Ok8.mono _ _ _ _ _ _ _ _) 12 rfl U hd (Below.refl _ _) rfl (fun q => absurd q (by decide))
      · rintro L a wx h hcl hL hw2
        have e12 := eval_G (h.got 12 54 (hw2 ⟨12, .data⟩ (by simp) rfl) rfl)
        refine o_val rfl rfl rfl (by rw [h.size]; decide) (v := .bool true) (w' := wx) ?_ ?_
        · generalize a.eval = E at *
          simp [go_sem, e12]
        · intro a' U hd
          exact h.step (by decide) (Ok8.mono _ _ _ _ _ _ _ _) 13 rfl U hd (Below.refl _ _) rfl (fun q => absurd q (by decide))
end Go.Proofs.YthhdgimphnbjbaaDoor
