/- The walk over LexCovers. -/
import Derived.Test.YtjjioikgligaoaaDoorG3
namespace Go.Proofs.YtjjioikgligaoaaDoor
open Go.RowKit

theorem toksF_no {l : List UInt8} (h : ¬ (toksF l).2.1 = 0) : (toksF l).1 = [] ∧ (toksF l).2.2 ≤ l.length := by
  unfold toksF at h ⊢
  split
  · exact ⟨rfl, Nat.zero_le _⟩
  · rename_i h1
    rw [if_neg h1] at h
    split
    · rename_i h2; exact ⟨rfl, by show utfL l ≤ _; omega⟩
    · rename_i h2
      rw [if_neg h2] at h
      have := toks_at l l.length 0 [] (Nat.zero_le _)
      rw [List.drop_zero] at this
      exact this h
theorem toksF_ok {l : List UInt8} (h : (toksF l).2.1 = 0) : Cov l 0 (toksF l).1 ∧ l.length ≤ 4000 := by
  unfold toksF at h ⊢
  split at h
  · exact absurd h (by decide : ¬ (4 : Int) = 0)
  · rename_i h1
    rw [if_neg h1]
    split at h
    · exact absurd h (by decide : ¬ (2 : Int) = 0)
    · rename_i h2
      rw [if_neg h2]
      have hle := leadL_le (gUtf l) l.length 0 l
      have hv : Lib.validD l = true := by
        have := utf_valid l l.length 0 (by omega) (Nat.zero_le _)
        rw [List.drop_zero] at this
        exact this (by unfold utfL at h2; omega)
      have := toks_cov l l.length 0 0 [] (by omega) (Nat.zero_le _) (Nat.le_refl _) (fun i a b => absurd b (by omega))
      rw [List.drop_zero] at this
      obtain ⟨new, a, b⟩ := this hv h
      rw [List.nil_append] at a
      rw [a]
      exact ⟨b, by omega⟩
theorem quote_ge (l : List UInt8) : l.length ≤ (quoteL l).length := by
  have : l.length ≤ ql l := by
    induction l with
    | nil => simp
    | cons b t ih =>
      have : 1 ≤ (qb b).length := by unfold qb; (repeat' split) <;> simp
      unfold ql at ih ⊢
      rw [List.flatMap_cons, List.length_append, List.length_cons]; omega
  rw [quote_len]; omega
theorem cov_len (l : List UInt8) : ∀ (ts : List Tk) (e : Nat), e ≤ l.length → Cov l e ts → ts.length + e ≤ l.length
  | [], e, h, _ => by simpa using h
  | t :: ts, e, h, hc => by
    obtain ⟨v1, v2, v3, _, v5⟩ := hc
    have := cov_len l ts _ v3 v5
    rw [List.length_cons]; omega
theorem blank_cases {b : UInt8} (h : isBl b.toNat = true) : ((b.toNat : Int) != 32) = false ∨ (((b.toNat : Int) != 32) = true ∧ ((b.toNat : Int) != 9) = false) ∨ (((b.toNat : Int) != 32) = true ∧ ((b.toNat : Int) != 9) = true ∧ ((b.toNat : Int) != 10) = false) := by
  unfold isBl at h
  simp at h
  rcases h with (h | h) | h <;> rw [h] <;> decide

set_option maxHeartbeats 400000 in
theorem covers_no (s : ByteArray) (w : World) (hL : LT w) (hS : SG w) (h : ¬ (toksF s.data.toList).2.1 = 0) :
    Calls Tryd.prog 5 #[.string s] w fun e w' => e = .returned (.bool true) ∧ Below w.heap.size w w' := by
  have A := hide (alive_any w hL hS)
  have T := hide (fun wx hb => tokens_of s wx (hL.on hb) (hS.on hb))
  obtain ⟨n1, n2⟩ := toksF_no h
  rw [n1] at T
  rw [← Lib.size_eq] at n2
  generalize toksF s.data.toList = q at *
  obtain ⟨q1, q2, q3⟩ := q
  simp only at T h n2
  have h' : (q2 != 0) = true := by simpa using h
  have c1 : (0 : Int) ≤ (q3 : Int) := by omega
  have c2 : (q3 : Int) ≤ (s.size : Int) := by omega
  clear hL hS h n1
  go_enter Tryd.func5, Tryd.ntmps5
  go_wp2_with fail
  refine (unhide A).mono ?_
  rintro e w1 ⟨rfl, hb⟩
  go_wp2_with fail
  refine (unhide T _ hb).mono ?_
  rintro e w2 ⟨⟨sv, rfl, hT⟩, hb2⟩
  obtain ⟨a, cap, rfl⟩ := hT.zero
  have hb3 := hb.trans (hb2.mono hb.size)
  clear hT T A hb hb2
  go_wp2
  go_ret
  exact ⟨rfl, hb3.alloc hb3.size _⟩

set_option maxHeartbeats 4000000 in
set_option maxRecDepth 100000 in
theorem covers_ok (s : ByteArray) (w : World) (hL : LT w) (hS : SG w) (h : (toksF s.data.toList).2.1 = 0) :
    Calls Tryd.prog 5 #[.string s] w fun e w' => e = .returned (.bool true) ∧ Below w.heap.size w w' := by
  have A := hide (alive_any w hL hS)
  have T := hide (fun wx hb => tokens_of s wx (hL.on hb) (hS.on hb))
  obtain ⟨cv, hlen⟩ := toksF_ok h
  rw [← Lib.size_eq] at hlen
  generalize toksF s.data.toList = q at *
  obtain ⟨toks, q2, q3⟩ := q
  simp only at T h cv
  subst h
  have CV := hide cv
  have hsI : (s.size : Int) ≤ 4000 := by omega
  clear hL hS cv
  go_enter Tryd.func5, Tryd.ntmps5
  go_wp2_with fail
  refine (unhide A).mono ?_
  rintro e w1 ⟨rfl, hb⟩
  go_wp2_with fail
  refine (unhide T _ hb).mono ?_
  rintro e w2 ⟨⟨sv, rfl, hT⟩, hb2⟩
  have hb3 := hb.trans (hb2.mono hb.size)
  have HB := hide (hb3.alloc hb3.size (.cells #[.int .i64 0, .int .i64 (q3 : Int)] 28))
  have HT := hide (hT.below ((Below.refl _ w2).alloc (Nat.le_refl _) (.cells #[.int .i64 0, .int .i64 (q3 : Int)] 28)))
  have hsl : ∃ a cap, sv = .slice a toks.length cap ∧ (toks = [] ∨ ∃ g, a = some ⟨g, 0, none⟩) ∧ toks.length ≤ cap := by
    by_cases q : toks = []
    · subst q
      obtain ⟨a, cap, e⟩ := hT.zero
      exact ⟨a, cap, e, .inl rfl, by simp⟩
    · obtain ⟨g, cap, e, h1, _⟩ := hT.at q
      exact ⟨_, cap, e, .inr ⟨g, rfl⟩, h1⟩
  obtain ⟨ad, cap, rfl, had, hcap⟩ := hsl
  have hln : toks.length ≤ 4000 := by
    have := cov_len _ _ _ (Nat.zero_le _) (unhide CV)
    rw [← Lib.size_eq] at this
    omega
  clear hT T A hb hb2 hb3
  go_wp2
  go_loopw [5, 38] (fun en i wr => ∃ (k e : Nat), k ≤ toks.length ∧ i = .int .i64 (k : Int) ∧ en = .int .i64 (e : Int) ∧ e ≤ s.size ∧ Hid (Cov s.data.toList e (toks.drop k)) ∧ Hid (TM (w1.heap.size + 1) wr (.slice ad toks.length cap) toks) ∧ Hid (Below w.heap.size w wr)) (fun _ i _ => toks.length - (intOf i).toNat)
  case atStart => exact ⟨0, 0, Nat.zero_le _, rfl, rfl, Nat.zero_le _, CV, HT, HB⟩
  case round =>
    obtain ⟨k, e, hk, rfl, rfl, hes, HC, HT2, HB2⟩ := hrel
    clear CV HT HB
    by_cases hlt : k < toks.length
    · obtain ⟨t, ht⟩ : ∃ t, toks[k]? = some t := ⟨_, List.getElem?_eq_getElem hlt⟩
      have hdrop : toks.drop k = t :: toks.drop (k + 1) := by
        rw [List.drop_eq_getElem_cons hlt]
        congr 1
        rw [List.getElem?_eq_getElem hlt] at ht
        exact Option.some.inj ht
      rw [hdrop] at HC
      obtain ⟨v1, v2, v3, v4, v5⟩ := unhide HC
      rw [← Lib.size_eq] at v3
      obtain ⟨g, cap', hsv, _, _, hgl, _, hcell⟩ := (unhide HT2).at (by intro q; rw [q] at hlt; simp at hlt)
      obtain rfl : ad = some ⟨g, 0, none⟩ := by injection hsv
      have d0 := hcell k t ht 0 _ rfl
      have d1 := hcell k t ht 1 _ rfl
      have d2 := hcell k t ht 2 _ rfl
      have d3 := hcell k t ht 3 _ rfl
      have d4 := hcell k t ht 4 _ rfl
      rw [Nat.add_zero] at d0
      clear hcell hsv had ht hdrop HC
      obtain ⟨tk, tt, tc, tx, ta⟩ := t
      simp only at v1 v2 v3 v4 v5 d0 d1 d2 d3 d4
      have V4 := hide v4
      have V5 := hide v5
      have hkI : (k : Int) < (toks.length : Int) := by omega
      obtain ⟨n, hn⟩ : ∃ n, wl tk tt = n := ⟨_, rfl⟩
      rw [hn] at v2 v3 V5
      have x1 : ¬ (ta : Int) < (e : Int) := by omega
      have x2 : ((n : Int) == 0) = false := by simp; omega
      have x3 : ¬ (s.size : Int) < (ta : Int) + (n : Int) := by omega
      have hta : (ta : Int) ≤ 4000 := by omega
      have hnI : (n : Int) ≤ 4000 := by omega
      obtain ⟨Tb, hTb⟩ : ∃ Tb : ByteArray, Tb = ⟨tt.toArray⟩ := ⟨_, rfl⟩
      rw [← hTb] at d1
      have HTt := hide ((unhide HT2).below ((Below.refl _ wr).alloc (Nat.le_refl _) (.cells #[.int .i64 tk, .string Tb, .int .i64 tc, .int .i64 tx, .int .i64 (ta : Int)] 34)))
      have HBt := hide ((unhide HB2).alloc (unhide HB2).size (.cells #[.int .i64 tk, .string Tb, .int .i64 tc, .int .i64 tx, .int .i64 (ta : Int)] 34))
      clear v4 v5
      by_cases hk3 : tk = 3
      · subst hk3
        have QC := quote_any Tb (wr.alloc (.cells #[.int .i64 3, .string Tb, .int .i64 tc, .int .i64 tx, .int .i64 (ta : Int)] 34)) (by
          rw [hTb, mk_size']
          have : (quoteL tt).length = n := by unfold wl at hn; rw [if_pos rfl] at hn; exact hn
          have q2 := quote_ge tt
          omega)
        rw [show Tb.data.toList = tt by rw [hTb]] at QC
        obtain ⟨Qb, hQb⟩ : ∃ Qb : ByteArray, Qb = ⟨(quoteL tt).toArray⟩ := ⟨_, rfl⟩
        rw [← hQb] at QC
        have hQs : Qb.size = n := by rw [hQb, mk_size']; unfold wl at hn; rw [if_pos rfl] at hn; exact hn
        replace QC := hide QC
        clear hn hTb hQb
        go_wp2_with fail
        refine (unhide QC).mono ?_
        rintro e' w3 ⟨rfl, hb⟩
        have HT3 := hide ((unhide HTt).below hb)
        have HB3 := hide ((unhide HBt).trans (hb.mono (unhide HBt).size))
        have b4 : w3.cell? ⟨wr.heap.size, 4, none⟩ = some (.int .i64 (ta : Int)) := (hb.cell (p := ⟨wr.heap.size, 4, none⟩) (by simp)).trans (by simp [go_sem])
        clear hb QC HTt HBt HT2 HB2
        go_wp2_with fail
        go_loop [9] (fun i => ∃ j : Nat, e ≤ j ∧ j ≤ ta ∧ i = .int .i64 (j : Int)) (fun i => ta - (intOf i).toNat)
        case atStart => exact ⟨e, Nat.le_refl _, v1, rfl⟩
        case round =>
          obtain ⟨j, hj1, hj2, rfl⟩ := hrel
          by_cases hj : j < ta
          · have hjs : j < s.size := by omega
            have hjI : (j : Int) < (ta : Int) := by omega
            have hjS : (j : Int) < (s.size : Int) := by omega
            have hbl := unhide V4 j hj1 hj
            rw [getD_at s j hjs] at hbl
            rcases blank_cases hbl with b1 | ⟨b1, b2⟩ | ⟨b1, b2, b3⟩
            all_goals
              clear hbl
              go_wp2
              go_round
              case rel => exact ⟨j + 1, by omega, by omega, by go_num⟩
              case measure => simp [intOf]; omega
          · have hjI : ¬ (j : Int) < (ta : Int) := by omega
            go_wp2
            go_roundw
            case rel => exact ⟨k + 1, ta + n, by omega, by go_num, by go_num, by omega, V5, HT3, HB3⟩
            case measure => simp [intOf]; omega
      · have hk3' : (tk == 3) = false := by simpa using hk3
        have hTs : Tb.size = n := by rw [hTb, mk_size']; unfold wl at hn; rw [if_neg hk3] at hn; exact hn
        clear hn hTb hk3 HT2 HB2
        go_wp2_with fail
        go_loop [9] (fun i => ∃ j : Nat, e ≤ j ∧ j ≤ ta ∧ i = .int .i64 (j : Int)) (fun i => ta - (intOf i).toNat)
        case atStart => exact ⟨e, Nat.le_refl _, v1, rfl⟩
        case round =>
          obtain ⟨j, hj1, hj2, rfl⟩ := hrel
          by_cases hj : j < ta
          · have hjs : j < s.size := by omega
            have hjI : (j : Int) < (ta : Int) := by omega
            have hjS : (j : Int) < (s.size : Int) := by omega
            have hbl := unhide V4 j hj1 hj
            rw [getD_at s j hjs] at hbl
            rcases blank_cases hbl with b1 | ⟨b1, b2⟩ | ⟨b1, b2, b3⟩
            all_goals
              clear hbl
              go_wp2
              go_round
              case rel => exact ⟨j + 1, by omega, by omega, by go_num⟩
              case measure => simp [intOf]; omega
          · have hjI : ¬ (j : Int) < (ta : Int) := by omega
            go_wp2
            go_roundw
            case rel => exact ⟨k + 1, ta + n, by omega, by go_num, by go_num, by omega, V5, HTt, HBt⟩
            case measure => simp [intOf]; omega
    · obtain rfl : k = toks.length := by omega
      have VB : Hid (∀ i, e ≤ i → i < s.data.toList.length → isBl (s.data.toList.getD i 0).toNat = true) := by
        have := unhide HC
        rw [List.drop_length] at this
        exact hide this
      clear HC
      go_wp2_with fail
      go_loop [10] (fun i => ∃ j : Nat, e ≤ j ∧ j ≤ s.size ∧ i = .int .i64 (j : Int)) (fun i => s.size - (intOf i).toNat)
      case atStart => exact ⟨e, Nat.le_refl _, hes, rfl⟩
      case round =>
        obtain ⟨j, hj1, hj2, rfl⟩ := hrel
        by_cases hj : j < s.size
        · have hjS : (j : Int) < (s.size : Int) := by omega
          have hbl := unhide VB j hj1 (by rw [← Lib.size_eq]; exact hj)
          rw [getD_at s j hj] at hbl
          rcases blank_cases hbl with b1 | ⟨b1, b2⟩ | ⟨b1, b2, b3⟩
          all_goals
            clear hbl
            go_wp2
            go_round
            case rel => exact ⟨j + 1, by omega, by omega, by go_num⟩
            case measure => simp [intOf]; omega
        · have hjS : ¬ (j : Int) < (s.size : Int) := by omega
          go_wp2
          go_ret
          exact ⟨rfl, unhide HB2⟩

theorem covers_walk (s : ByteArray) (w : World) (hf : LT w ∧ SG w) :
    Calls Tryd.prog 5 #[.string s] w fun e w' => e = .returned (.bool true) ∧ Below w.heap.size w w' := by
  by_cases h : (toksF s.data.toList).2.1 = 0
  · exact covers_ok s w hf.1 hf.2 h
  · exact covers_no s w hf.1 hf.2 h
end Go.Proofs.YtjjioikgligaoaaDoor
