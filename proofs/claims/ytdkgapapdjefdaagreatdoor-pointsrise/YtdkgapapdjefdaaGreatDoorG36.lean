/- numberPoints of some edges. -/
import Derived.Test.YtdkgapapdjefdaaGreatDoorG35
import Derived.Deep.RegionLaw
namespace Go.Proofs.YtdkgapapdjefdaaGreatDoor
open Go.RowKit Go.Sort

set_option maxRecDepth 100000 in
set_option maxHeartbeats 8000000 in
theorem numPts_any (es : List (Int × Int)) (g cap : Nat) (w : World) (hr : RowD w g es) (hne : es ≠ []) (hf : ∀ p ∈ es, Few p.1 p.2) (hl : es.length ≤ 1000000) :
    Calls Tryz.prog 14 #[.slice (some ⟨g, 0, none⟩) es.length cap] w fun e w' => ∃ v ps, e = .returned v ∧ IsPts es ps ∧ w'.ownsRow w.heap.size 27 6 v ps.length (flatV ps) ∧ Below w.heap.size w w' := by
  have hl0 : 0 < es.length := List.length_pos_iff.2 hne
  obtain ⟨e0, he0⟩ : ∃ p, es[0]? = some p := ⟨_, List.getElem?_eq_getElem hl0⟩
  obtain ⟨e9, he9⟩ : ∃ p, es[es.length - 1]? = some p := ⟨_, List.getElem?_eq_getElem (by omega)⟩
  obtain ⟨q0, q01, q02, q03, q04⟩ := sum_is (hf e0 (List.mem_of_getElem? he0)) few_mone
  obtain ⟨q9, q91, q92, q93, q94⟩ := sum_is (hf e9 (List.mem_of_getElem? he9)) few_one
  have SB := hide (fun wx => sub_ok e0.1 e0.2 1 0 wx (hf e0 (List.mem_of_getElem? he0)).ok (by decide))
  have AD := hide (fun wx => add_ok e9.1 e9.2 1 0 wx (hf e9 (List.mem_of_getElem? he9)).ok (by decide))
  rw [q04] at SB
  rw [q94] at AD
  have r00 := hr.at0 0 e0 he0
  have r01 := hr.at1 0 e0 he0
  have hgl := hr.low
  have hn0 : ((es.length : Int) == 0) = false := by simp; omega
  obtain ⟨W0, hW0⟩ : ∃ W0, W0 = w.alloc (.cells #[.int .i64 1, .int .i64 0] 24) := ⟨_, rfl⟩
  have hs0 : W0.heap.size = w.heap.size + 1 := by rw [hW0]; simp
  have hb0 : Hid (Below w.heap.size w W0) := hide (by rw [hW0]; exact vbelow_new _ _)
  have R0 := hide (hr.keep (w' := W0) (by rw [hW0]; exact vbelow_new _ _))
  have O0 : Hid (BxD W0 w.heap.size (1, 0)) := hide (by rw [hW0]; exact ⟨by simp [go_sem], by simp [go_sem]⟩)
  have r00 := (unhide R0).at0 0 e0 he0
  have r01 := (unhide R0).at1 0 e0 he0
  have o0 := (unhide O0).c0
  have o1 := (unhide O0).c1
  have hgl := (unhide R0).low
  have he0' := hide he0
  have he9' := hide he9
  have hf' := hide hf
  clear he0 he9 hf hr hne
  go_enter Tryz.func14, Tryz.ntmps14
  go_upto_region 4 with fail
  rw [← hW0]
  clear hW0
  go_cut [4] from 5 (fun a wc => ∃ p, a = .pointer (some ⟨p, 0, none⟩) ∧ Hid (BxD wc p q0) ∧ Hid (Below W0.heap.size W0 wc))
  case first =>
    go_region_with (go_at_call 32; refine (unhide SB _).mono ?_; rintro e w1 ⟨rfl, hb⟩; obtain ⟨hc, hf⟩ := bcell hb)
    all_goals
      go_wp2_with fail
      go_meet
      case rel => first | exact relA hb | exact relB hs0 hb
  case rest =>
    obtain ⟨p4, rfl, B4, HB4⟩ := hcut
    clear r00 r01 o0 o1 hgl
    have hb4 := hide (bv (unhide hb0) (unhide HB4))
    have R4 := hide ((unhide R0).keep (unhide HB4))
    have O4 := hide ((unhide O0).keep (unhide HB4))
    clear R0 O0 HB4 hb0 SB
    generalize wc = w4 at *
    obtain ⟨k9, hk9⟩ : ∃ k, k = es.length - 1 := ⟨_, rfl⟩
    have he9k : es[k9]? = some e9 := by rw [hk9]; exact unhide he9'
    have r90 := (unhide R4).at0 k9 e9 he9k
    have r91 := (unhide R4).at1 k9 e9 he9k
    have he9k' := hide he9k
    clear he9k
    have o0 := (unhide O4).c0
    have o1 := (unhide O4).c1
    have hol := lt_of_cell o0
    have hgl := (unhide R4).low
    have hn1 : (es.length : Int) - 1 = (k9 : Int) := by omega
    have hn2 : k9 < es.length := by omega
    have hn3 : (k9 : Int) < (es.length : Int) := by omega
    have hn4 : IntKind.i64.wrap ((es.length : Int) - 1) = (k9 : Int) := by rw [hn1]; simp [IntKind.wrap, IntKind.bits, IntKind.signed]; omega
    have hn5 : IntKind.i64.wrap (k9 : Int) = (k9 : Int) := by simp [IntKind.wrap, IntKind.bits, IntKind.signed]; omega
    have hk9' := hide hk9
    clear hk9 hn1
    go_upto_region 5 with fail
    go_cut [6] from 7 (fun a wc => ∃ p, a = .pointer (some ⟨p, 0, none⟩) ∧ Hid (BxD wc p q9) ∧ Hid (Below w4.heap.size w4 wc))
    case first =>
      go_region_with (go_at_call 33; refine (unhide AD _).mono ?_; rintro e w1 ⟨rfl, hb⟩; obtain ⟨hc, hf⟩ := bcell hb)
      all_goals
        go_wp2_with fail
        go_meet
        case rel => first | exact relA hb | exact relB rfl hb
    case rest =>
      obtain ⟨p6, rfl, B6, HB6⟩ := hcut
      clear r90 r91 o0 o1 hgl hol
      have hb6 := hide (bv (unhide hb4) (unhide HB6))
      have R6 := hide ((unhide R4).keep (unhide HB6))
      have C4 := hide ((unhide B4).keep (unhide HB6))
      clear R4 O4 HB6 hb4 AD B4
      generalize wc = w6 at *
      have hz6 : w.heap.size ≤ w6.heap.size := (unhide hb6).size
      obtain ⟨w7, hmk, hown7, hb7⟩ := make_V (2 * es.length + 1) (by omega) w6
      rw [show ((2 * es.length + 1 : Nat) : Int) = 2 * (es.length : Int) + 1 by omega] at hmk
      have H7 := hide hown7
      have HB7 := hide hb7
      have c40 := ((unhide C4).keep hb7).c0
      have c41 := ((unhide C4).keep hb7).c1
      have l4 := lt_of_cell c40
      have NU := hide (fun (q : Int × Int) wx => pnumber_any q.1 q.2 wx)
      obtain ⟨i0, hi, hz0, hz1, hz2⟩ := info_parts info_V
      have HI := hide (And.intro hi (And.intro hz0 (And.intro hz1 hz2)))
      clear hown7 hb7 hi hz0 hz1 hz2
      go_wp2_with fail
      refine (unhide NU q0 _).mono ?_
      rintro e w8 ⟨rfl, hb8⟩
      have H8 := hide (own_keep9 (unhide H7) hb8)
      have HB8 := hide ((unhide HB7).trans (hb8.mono (unhide HB7).size))
      have hz8 : w6.heap.size ≤ w8.heap.size := (unhide HB8).size
      clear hb8 c40 c41 l4 hmk
      go_wp2_with (at_builtin; refine wpList_append_own _ rfl _ _ 25 rfl w6.heap.size 27 i0 (.agg #[.int .i64 0, .bool false, .int .i64 0, .int .i64 0, .string ⟨#[]⟩, .slice none 0 0]) 6 72 Tryz.underlying25 (unhide HI).1 (unhide HI).2.1 (unhide HI).2.2.1 (unhide HI).2.2.2 rfl (by decide) _ _ _ rfl ((unhide H8).alloc _) ⟨w8.heap.size, 0, none⟩ 1 1 (valN q0) rfl rfl (cell_six9 _ _ _ _ _ _ _ _) (one_valN q0) ?c3 ?c4 ?c5 ?_)
      case c3 => unfold maxLen; omega
      case c4 => omega
      case c5 => simp; omega
      intro v9 w9 hown9 hg9 hnil9
      have H9 : Hid (w9.ownsRow w6.heap.size 27 6 v9 [q0].length (flatV [q0])) := hide (by rw [flatV_one]; simpa using hown9)
      have HB9 := hide (own_grown9 ((unhide H8).alloc _) ((unhide HB8).alloc (by omega) _) hg9 (Nat.le_refl _) (by simp; omega))
      have A9 := hide (AccP.start es q01)
      clear hown9 hg9 hnil9 H8 HB8 H7 HB7 hz8
      go_wp2
      go_loopw [8, 49] (fun sv i wr => ∃ (m : Nat) (acc : List (Int × Int)), m ≤ es.length ∧ i = .int .i64 (m : Int) ∧ Hid (AccP es q0 m acc) ∧ Hid (wr.ownsRow w6.heap.size 27 6 sv acc.length (flatV acc)) ∧ Hid (Below w6.heap.size w6 wr)) (fun _ i _ => es.length - (intOf i).toNat)
      case atStart => exact ⟨0, [q0], Nat.zero_le _, rfl, A9, H9, HB9⟩
      case round =>
        obtain ⟨m, acc, hml, rfl, HA, HO, HB⟩ := hrel
        clear A9 H9 HB9
        have hal : acc.length ≤ 2 * m + 1 := by rw [(unhide HA).len]; split <;> omega
        have hwr : w6.heap.size ≤ wr.heap.size := (unhide HB).size
        by_cases hlt2 : m < es.length
        · have hi1 : (m : Int) < (es.length : Int) := by omega
          obtain ⟨em, hem⟩ : ∃ u, es[m]? = some u := ⟨_, List.getElem?_eq_getElem hlt2⟩
          have R := (unhide R6).keep (unhide HB)
          have rm0 := R.at0 m em hem
          have rm1 := R.at1 m em hem
          have hgl := R.low
          have Kem := hide ((unhide hf') em (List.mem_of_getElem? hem))
          by_cases hm0 : m = 0
          · subst hm0
            have HA1 := hide ((unhide HA).one hem (unhide Kem).ok)
            clear hem R
            go_wp2_with fail
            have hba := vbelow_new wr (.cells #[.int .i64 em.1, .int .i64 em.2] 24)
            refine (unhide NU em _).mono ?_
            rintro e w10 ⟨rfl, hb10⟩
            have H10 := hide (own_keep9 (own_keep9 (unhide HO) hba) hb10)
            have HB10 := hide (((unhide HB).trans (hba.mono hwr)).trans (hb10.mono (by simp; omega)))
            have hz10 : w6.heap.size ≤ w10.heap.size := (unhide HB10).size
            clear hb10 hba rm0 rm1 hgl HO HB
            go_wp2_with (at_builtin; refine wpList_append_own _ rfl _ _ 25 rfl w6.heap.size 27 i0 (.agg #[.int .i64 0, .bool false, .int .i64 0, .int .i64 0, .string ⟨#[]⟩, .slice none 0 0]) 6 72 Tryz.underlying25 (unhide HI).1 (unhide HI).2.1 (unhide HI).2.2.1 (unhide HI).2.2.2 rfl (by decide) _ _ _ rfl ((unhide H10).alloc _) ⟨w10.heap.size, 0, none⟩ 1 1 (valN em) rfl rfl (cell_six9 _ _ _ _ _ _ _ _) (one_valN em) ?c3 ?c4 ?c5 ?_)
            case c3 => unfold maxLen; omega
            case c4 => omega
            case c5 => simp; omega
            intro v11 w11 hown11 hg11 hnil11
            have H11 : Hid (w11.ownsRow w6.heap.size 27 6 v11 (acc ++ [em]).length (flatV (acc ++ [em]))) := hide (by rw [flatV_app, flatV_one]; simpa using hown11)
            have HB11 := hide (own_grown9 ((unhide H10).alloc _) ((unhide HB10).alloc (by omega) _) hg11 (Nat.le_refl _) (by simp; omega))
            clear hown11 hg11 hnil11 H10 HB10
            go_wp2
            go_roundw
            case rel => exact ⟨1, _, by omega, by go_num, HA1, H11, HB11⟩
            case measure => simp [intOf]; omega
          · obtain ⟨j, hj⟩ : ∃ j, m = j + 1 := ⟨m - 1, by omega⟩
            obtain ⟨ej, hej⟩ : ∃ u, es[j]? = some u := ⟨_, List.getElem?_eq_getElem (by omega)⟩
            have rj0 := R.at0 j ej hej
            have rj1 := R.at1 j ej hej
            have Kej := hide ((unhide hf') ej (List.mem_of_getElem? hej))
            have MD := hide (fun wx => middle_any ej.1 ej.2 em.1 em.2 wx (unhide Kej) (unhide Kem))
            have HA1 := hide (fun (q : Int × Int) (h1 : Dm.wrongN q.1 q.2 = 0) (h2 : 2 * vR q = vR ej + vR em) => show AccP es q0 (m + 1) (acc ++ [q] ++ [em]) by
              have H := unhide HA
              rw [hj] at H hem ⊢
              exact H.more hej hem (unhide Kem).ok h1 h2)
            have hj1 : (m : Int) - 1 = (j : Int) := by omega
            have hj2 : (j : Int) < (es.length : Int) := by omega
            have hj3 : IntKind.i64.wrap ((m : Int) - 1) = (j : Int) := by rw [hj1]; simp [IntKind.wrap, IntKind.bits, IntKind.signed]; omega
            have hj4 : IntKind.i64.wrap (j : Int) = (j : Int) := by simp [IntKind.wrap, IntKind.bits, IntKind.signed]; omega
            have hj5 : 0 < (m : Int) := by omega
            clear hem hej R hj1 hj hm0
            go_wp2_with fail
            have hba := vbelow_new wr (.cells #[.int .i64 em.1, .int .i64 em.2] 24)
            have BA : BxD (wr.alloc (.cells #[.int .i64 em.1, .int .i64 em.2] 24)) wr.heap.size em := ⟨by simp [go_sem], by simp [go_sem]⟩
            have hob : ∀ k, u8.ownBlock = some k → k < wr.heap.size := fun k hk => ((unhide HO).lt k hk).2
            have BA' := hide BA
            have hba' := hide hba
            have hob' := hide hob
            clear BA hba hob
            go_cut [8] from 54 to 72 (fun a wc => ∃ q : Int × Int, Hid (Dm.wrongN q.1 q.2 = 0 ∧ 2 * vR q = vR ej + vR em) ∧ Hid (wc.ownsRow w6.heap.size 27 6 a (acc ++ [q]).length (flatV (acc ++ [q]))) ∧ Hid (Below w6.heap.size w6 wc) ∧ Hid (BxD wc wr.heap.size em))
            case first =>
              go_region_law (first
                | (go_simp
                   refine (unhide MD _).mono ?_
                   rintro e w10 ⟨q, k1, k2, rfl, hb10⟩)
                | (go_simp
                   refine (unhide NU q _).mono ?_
                   rintro e w11 ⟨rfl, hb11⟩)
                | (refine step_append9 rfl _ _ 25 rfl w6.heap.size 27 i0 (.agg #[.int .i64 0, .bool false, .int .i64 0, .int .i64 0, .string ⟨#[]⟩, .slice none 0 0]) 6 72 Tryz.underlying25 (unhide HI).1 (unhide HI).2.1 (unhide HI).2.2.1 (unhide HI).2.2.2 rfl (by decide) _ _ _ rfl ((own_keep9 (own_keep9 ((own_keep9 (unhide HO) (unhide hba')).drew) hb10) hb11).alloc _) ⟨w11.heap.size, 0, none⟩ 1 1 (valN q) rfl rfl (cell_six9 _ _ _ _ _ _ _ _) (one_valN q) ?c3 ?c4 ?c5 ?_
                   case c3 => unfold maxLen; omega
                   case c4 => omega
                   case c5 => have h1 := hb11.size; have h2 := hb10.size; simp at h2; simp; omega
                   intro v12 w12 hown12 hg12 hat12
                   obtain ⟨gg, cc, rfl⟩ := own_slice9 hown12))
              all_goals
                go_wp2_with fail
                go_meet
                case rel => exact mid_rel (unhide HO) (unhide HB) k1 k2 hb10 hb11 hown12 hg12
            case rest =>
              obtain ⟨q, hq, HO2, HB2, BX2⟩ := hcut
              generalize wc = wd at *
              have c0 := (unhide BX2).c0
              have c1 := (unhide BX2).c1
              have lx := lt_of_cell c0
              have HA2 := hide (unhide HA1 q (unhide hq).1 (unhide hq).2)
              have hwd : w6.heap.size ≤ wd.heap.size := (unhide HB2).size
              have hal2 : (acc ++ [q]).length = acc.length + 1 := by simp
              clear rm0 rm1 rj0 rj1 hgl HO HB HA HA1 MD BA' hba' hob' Kem Kej hq
              go_wp2_with fail
              refine (unhide NU em _).mono ?_
              rintro e w10 ⟨rfl, hb10⟩
              have H10 := hide (own_keep9 (unhide HO2) hb10)
              have HB10 := hide ((unhide HB2).trans (hb10.mono hwd))
              have hz10 : w6.heap.size ≤ w10.heap.size := (unhide HB10).size
              clear hb10 c0 c1 lx BX2 HO2 HB2
              go_wp2_with (at_builtin; refine wpList_append_own _ rfl _ _ 25 rfl w6.heap.size 27 i0 (.agg #[.int .i64 0, .bool false, .int .i64 0, .int .i64 0, .string ⟨#[]⟩, .slice none 0 0]) 6 72 Tryz.underlying25 (unhide HI).1 (unhide HI).2.1 (unhide HI).2.2.1 (unhide HI).2.2.2 rfl (by decide) _ _ _ rfl ((unhide H10).alloc _) ⟨w10.heap.size, 0, none⟩ 1 1 (valN em) rfl rfl (cell_six9 _ _ _ _ _ _ _ _) (one_valN em) ?c3 ?c4 ?c5 ?_)
              case c3 => unfold maxLen; omega
              case c4 => omega
              case c5 => simp; omega
              intro v11 w11 hown11 hg11 hnil11
              have H11 : Hid (w11.ownsRow w6.heap.size 27 6 v11 (acc ++ [q] ++ [em]).length (flatV (acc ++ [q] ++ [em]))) := hide (by rw [flatV_app (acc ++ [q]), flatV_one]; simpa using hown11)
              have HB11 := hide (own_grown9 ((unhide H10).alloc _) ((unhide HB10).alloc (by omega) _) hg11 (Nat.le_refl _) (by simp; omega))
              clear hown11 hg11 hnil11 H10 HB10
              go_wp2
              go_roundw
              case rel => exact ⟨m + 1, _, by omega, by go_num, HA2, H11, HB11⟩
              case measure => simp [intOf]; omega
        · obtain rfl : m = es.length := by omega
          have BX := (unhide B6).keep (unhide HB)
          have c60 := BX.c0
          have c61 := BX.c1
          have l6 := lt_of_cell c60
          have HA1 := hide ((unhide HA).done (List.length_pos_iff.1 hl0) (fun a ha => by
            rw [unhide he0'] at ha
            cases ha
            rw [q02, V_mone]
            unfold vR
            omega) (fun a ha => by
            rw [unhide he9'] at ha
            cases ha
            rw [q92, V_one]
            unfold vR
            rfl) q91)
          clear BX
          go_wp2_with fail
          refine (unhide NU q9 _).mono ?_
          rintro e w10 ⟨rfl, hb10⟩
          have H10 := hide (own_keep9 (unhide HO) hb10)
          have HB10 := hide ((unhide HB).trans (hb10.mono hwr))
          have hz10 : w6.heap.size ≤ w10.heap.size := (unhide HB10).size
          clear hb10 c60 c61 l6 HO HB
          go_wp2_with (at_builtin; refine wpList_append_own _ rfl _ _ 25 rfl w6.heap.size 27 i0 (.agg #[.int .i64 0, .bool false, .int .i64 0, .int .i64 0, .string ⟨#[]⟩, .slice none 0 0]) 6 72 Tryz.underlying25 (unhide HI).1 (unhide HI).2.1 (unhide HI).2.2.1 (unhide HI).2.2.2 rfl (by decide) _ _ _ rfl ((unhide H10).alloc _) ⟨w10.heap.size, 0, none⟩ 1 1 (valN q9) rfl rfl (cell_six9 _ _ _ _ _ _ _ _) (one_valN q9) ?c3 ?c4 ?c5 ?_)
          case c3 => unfold maxLen; omega
          case c4 => omega
          case c5 => simp; omega
          intro v11 w11 hown11 hg11 hnil11
          have H11 : Hid (w11.ownsRow w6.heap.size 27 6 v11 (acc ++ [q9]).length (flatV (acc ++ [q9]))) := hide (by rw [flatV_app, flatV_one]; simpa using hown11)
          have HB11 := hide (own_grown9 ((unhide H10).alloc _) ((unhide HB10).alloc (by omega) _) hg11 (Nat.le_refl _) (by simp; omega))
          clear hown11 hg11 hnil11 H10 HB10
          go_wp2
          go_ret
          exact ⟨v11, _, rfl, unhide HA1, ownsRow_base9 (unhide H11) hz6, (unhide hb6).trans ((unhide HB11).mono hz6)⟩
end Go.Proofs.YtdkgapapdjefdaaGreatDoor
