/- Plain facts: a quoted text of runes is one token, and says the text. -/
import Derived.Test.YtjjioikgligaoaaDoorH1
namespace Go.Proofs.YtjjioikgligaoaaDoor

/-- a rune is read of its own bytes alone, whatever stands behind them -/
theorem dec_same {l m : List UInt8} {w : Nat} (hw : (Lib.decodeL l).2 = w) (h0 : 0 < w) (hm : w ≤ m.length) (hg : ∀ i, i < w → m.getD i 0 = l.getD i 0) (hv : ¬ ((Lib.decodeL l).1 = 65533 ∧ (Lib.decodeL l).2 = 1)) : Lib.decodeL m = Lib.decodeL l := by
  rw [Lib.decodeL_N] at hv hw ⊢
  rw [Lib.decodeL_N l]
  rw [hg 0 h0]
  rcases Lib.decodeN_shape l.length (l.getD 0 0).toNat (l.getD 1 0).toNat (l.getD 2 0).toNat (l.getD 3 0).toNat with ⟨c, e⟩ | ⟨c1, c2, c3, cv, e⟩ | ⟨c1, c2, c3, c4, cv, cs, e⟩ | ⟨c1, c2, c3, c4, c5, cv, cw, e⟩ | e
  · rw [e]; exact Lib.decodeN_ascii _ _ _ _ _ c
  · rw [e] at hw
    simp only at hw
    rw [e, hg 1 (by omega)]
    generalize (l.getD 0 0).toNat = b0 at *
    generalize (l.getD 1 0).toNat = b1 at *
    unfold Lib.decodeN
    rw [if_neg (by omega), if_pos ⟨c1, by omega, c3⟩, if_pos (by omega)]
  · rw [e] at hw
    simp only at hw
    rw [e, hg 1 (by omega), hg 2 (by omega)]
    generalize (l.getD 0 0).toNat = b0 at *
    generalize (l.getD 1 0).toNat = b1 at *
    generalize (l.getD 2 0).toNat = b2 at *
    unfold Lib.decodeN
    rw [if_neg (by omega), if_neg (by omega), if_pos ⟨c1, ⟨by omega, c3⟩, by omega, c4⟩, if_pos (by omega)]
  · rw [e] at hw
    simp only at hw
    rw [e, hg 1 (by omega), hg 2 (by omega), hg 3 (by omega)]
    generalize (l.getD 0 0).toNat = b0 at *
    generalize (l.getD 1 0).toNat = b1 at *
    generalize (l.getD 2 0).toNat = b2 at *
    generalize (l.getD 3 0).toNat = b3 at *
    unfold Lib.decodeN
    rw [if_neg (by omega), if_neg (by omega), if_neg (by omega), if_pos ⟨c1, ⟨by omega, c3⟩, ⟨by omega, c4⟩, by omega, c5⟩, if_pos (by omega)]
  · exact absurd (by rw [e]; exact ⟨rfl, rfl⟩) hv

theorem qb_hi {b : UInt8} (h1 : b.toNat ≠ 34) (h2 : b.toNat ≠ 92) (h3 : b.toNat ≠ 10) : qb b = [b] := by
  unfold qb
  rw [if_neg (by rintro (q | q); · exact h1 (by rw [q]; rfl)
                 · exact h2 (by rw [q]; rfl)), if_neg (fun q => h3 (by rw [q]; rfl))]
theorem flat_same : ∀ l : List UInt8, (∀ b ∈ l, b.toNat ≠ 34 ∧ b.toNat ≠ 92 ∧ b.toNat ≠ 10) → l.flatMap qb = l
  | [], _ => rfl
  | b :: t, h => by
    obtain ⟨a1, a2, a3⟩ := h b (by simp)
    rw [List.flatMap_cons, qb_hi a1 a2 a3, flat_same t (fun x hx => h x (by simp [hx]))]; rfl
/-- the first rune, and what stands for it in quotes -/
theorem rune_cases {l : List UInt8} (hne : l ≠ []) (hv : ¬ ((Lib.decodeL l).1 = 65533 ∧ (Lib.decodeL l).2 = 1)) :
    (∃ b t, l = b :: t ∧ Lib.decodeL l = (b.toNat, 1) ∧ (b = 34 ∨ b = 92) ∧ qb b = [92, b]) ∨ (∃ t, l = 10 :: t ∧ Lib.decodeL l = (10, 1)) ∨
    ((Lib.decodeL l).1 ≠ 34 ∧ (Lib.decodeL l).1 ≠ 92 ∧ (Lib.decodeL l).1 ≠ 10 ∧ (l.take (Lib.decodeL l).2).flatMap qb = l.take (Lib.decodeL l).2) := by
  by_cases hr : (Lib.decodeL l).1 < 128
  · obtain ⟨a, hb⟩ := dec_head hne hr
    cases l with
    | nil => exact absurd rfl hne
    | cons b t =>
      have a' : Lib.decodeL (b :: t) = (b.toNat, 1) := a
      by_cases q1 : b.toNat = 34
      · obtain rfl : b = 34 := u8_of (n := 34) q1 (by omega)
        exact .inl ⟨34, t, rfl, a', .inl rfl, rfl⟩
      · by_cases q2 : b.toNat = 92
        · obtain rfl : b = 92 := u8_of (n := 92) q2 (by omega)
          exact .inl ⟨92, t, rfl, a', .inr rfl, rfl⟩
        · by_cases q3 : b.toNat = 10
          · obtain rfl : b = 10 := u8_of (n := 10) q3 (by omega)
            exact .inr (.inl ⟨t, rfl, a'⟩)
          · refine .inr (.inr ?_)
            rw [a']
            refine ⟨q1, q2, q3, ?_⟩
            show [b].flatMap qb = [b]
            simp [qb_hi q1 q2 q3]
  · refine .inr (.inr ⟨by omega, by omega, by omega, flat_same _ fun b hb => ?_⟩)
    rw [← Lib.encode_decode l hne hv] at hb
    have := enc_hi (by omega) (Lib.decodeL_rune l) b hb
    omega

theorem take_ne {l : List UInt8} {w : Nat} (hne : l ≠ []) (h : 0 < w) : l.take w ≠ [] := by
  intro q
  have := congrArg List.length q
  have hl := List.length_pos_iff.2 hne
  rw [List.length_take, List.length_nil] at this
  omega
theorem dec_again {l : List UInt8} (hne : l ≠ []) (hv : ¬ ((Lib.decodeL l).1 = 65533 ∧ (Lib.decodeL l).2 = 1)) (u : List UInt8) : Lib.decodeL (l.take (Lib.decodeL l).2 ++ u) = Lib.decodeL l := by
  have hw := Lib.decodeL_width l
  have hle := Lib.decodeL_le l hne
  refine dec_same rfl (by omega) (by simp; omega) (fun i hi => ?_) hv
  rw [List.getD_eq_getElem?_getD, List.getD_eq_getElem?_getD, List.getElem?_append_left (by rw [List.length_take]; omega), List.getElem?_take, if_pos hi]

theorem quoted_val : ∀ (n : Nat) (s : List UInt8), s.length ≤ n → Lib.validD s = true → Lib.validD (s.flatMap qb ++ [34]) = true
  | 0, s, h, _ => by
    have : s = [] := List.eq_nil_of_length_eq_zero (by omega)
    subst this; decide +kernel
  | n + 1, s, h, hv => by
    by_cases hne : s = []
    · subst hne; decide +kernel
    · obtain ⟨v1, v2⟩ := val_step hv hne
      have hw := Lib.decodeL_width s
      have hle := Lib.decodeL_le s hne
      have ih := quoted_val n (s.drop (Lib.decodeL s).2) (by rw [List.length_drop]; omega) v2
      have one : ∀ (b : UInt8) (t : List UInt8), b.toNat < 128 → Lib.validD t = true → Lib.validD (b :: t) = true := by
        intro b t hb ht
        rw [Lib.validD_step _ (by simp), dec_ascii hb, if_neg (by rintro ⟨a, _⟩; simp only at a; omega)]
        exact ht
      rcases rune_cases hne v1 with ⟨b, t, rfl, hd, hb, hq⟩ | ⟨t, rfl, hd⟩ | ⟨_, _, _, hf⟩
      · rw [hd] at ih
        rw [List.flatMap_cons, hq]
        have hlt : b.toNat < 128 := by rcases hb with rfl | rfl <;> decide
        exact one 92 _ (by decide) (one b _ hlt ih)
      · rw [hd] at ih
        rw [List.flatMap_cons]
        exact one 92 _ (by decide) (one 110 _ (by decide) ih)
      · have e : s.flatMap qb = s.take (Lib.decodeL s).2 ++ (s.drop (Lib.decodeL s).2).flatMap qb := by
          conv => lhs; rw [← List.take_append_drop (Lib.decodeL s).2 s, List.flatMap_append, hf]
        rw [e, List.append_assoc, Lib.validD_step _ (app_ne (take_ne hne (by omega))), dec_again hne v1, if_neg v1, List.drop_append_of_le_length (by rw [List.length_take]; omega), List.drop_take, Nat.sub_self]
        simpa using ih

/-- the text's closure reads a quoted text back -/
theorem quoted_text : ∀ (n : Nat) (s : List UInt8), s.length ≤ n → Lib.validD s = true → ∀ (f : Nat) (acc : List UInt8) (pos : Nat), ql s + 1 ≤ f → textL f false acc pos (s.flatMap qb ++ [34]) = (pos + ql s, acc ++ s)
  | n, [], _, _, f, acc, pos, hf => by
    obtain ⟨f, rfl⟩ : ∃ g, f = g + 1 := ⟨f - 1, by omega⟩
    have hd : Lib.decodeL (([] : List UInt8).flatMap qb ++ [34]) = (34, 1) := dec_ascii (by decide)
    rw [textL_stop (by simp) (by rw [hd]; rfl), hd]
    simp [tAdd, ql]
  | 0, b :: t, h, _, _, _, _, _ => by simp at h
  | n + 1, b :: t, h, hv, f, acc, pos, hf => by
    have hne : b :: t ≠ [] := by simp
    generalize b :: t = s at *
    obtain ⟨v1, v2⟩ := val_step hv hne
    have hw := Lib.decodeL_width s
    have hle := Lib.decodeL_le s hne
    have ih := quoted_text n (s.drop (Lib.decodeL s).2) (by rw [List.length_drop]; omega) v2
    rcases rune_cases hne v1 with ⟨b, t, rfl, hd, hb, hq⟩ | ⟨t, rfl, hd⟩ | ⟨n1, n2, n3, hfl⟩
    · rw [hd] at ih
      replace ih : ∀ (f : Nat) (acc : List UInt8) (pos : Nat), ql t + 1 ≤ f → textL f false acc pos (t.flatMap qb ++ [34]) = (pos + ql t, acc ++ t) := ih
      have hql : ql (b :: t) = ql t + 2 := by unfold ql; rw [List.flatMap_cons, hq, List.length_append]; simp only [List.length_cons, List.length_nil]; omega
      obtain ⟨f, rfl⟩ : ∃ g, f = g + 2 := ⟨f - 2, by omega⟩
      rw [List.flatMap_cons, hq]
      have d1 : Lib.decodeL ([92, b] ++ t.flatMap qb ++ [34]) = (92, 1) := dec_ascii (by decide)
      have hlt : b.toNat < 128 := by rcases hb with rfl | rfl <;> decide
      have d2 : Lib.decodeL (b :: (t.flatMap qb ++ [34])) = (b.toNat, 1) := dec_ascii hlt
      have st1 : textL (f + 2) false acc pos ([92, b] ++ t.flatMap qb ++ [34]) = textL (f + 1) true (acc ++ []) (pos + 1) (b :: (t.flatMap qb ++ [34])) := by
        rw [textL_go (f := f + 1) (by simp) (by rw [d1]; rfl), d1]
        simp only [show tEsc false 92 = true from rfl, show tAdd false 92 = [] from rfl, List.cons_append, List.nil_append, List.drop_succ_cons, List.drop_zero]
      rw [st1]
      have e1 : tAdd true b.toNat = [b] := by rcases hb with rfl | rfl <;> decide +kernel
      have st2 : textL (f + 1) true (acc ++ []) (pos + 1) (b :: (t.flatMap qb ++ [34])) = textL f false (acc ++ [] ++ [b]) (pos + 1 + 1) (t.flatMap qb ++ [34]) := by
        rw [textL_go (f := f) (by simp) (by rw [d2]; rcases hb with rfl | rfl <;> rfl), d2]
        simp only [e1, show tEsc true b.toNat = false from rfl, List.drop_succ_cons, List.drop_zero]
      rw [st2, ih f _ _ (by omega), hql]
      simp
      omega
    · rw [hd] at ih
      replace ih : ∀ (f : Nat) (acc : List UInt8) (pos : Nat), ql t + 1 ≤ f → textL f false acc pos (t.flatMap qb ++ [34]) = (pos + ql t, acc ++ t) := ih
      have hq : qb 10 = [92, 110] := rfl
      have hql : ql (10 :: t) = ql t + 2 := by unfold ql; rw [List.flatMap_cons, hq, List.length_append]; simp only [List.length_cons, List.length_nil]; omega
      obtain ⟨f, rfl⟩ : ∃ g, f = g + 2 := ⟨f - 2, by omega⟩
      rw [List.flatMap_cons, hq]
      have d1 : Lib.decodeL ([92, 110] ++ t.flatMap qb ++ [34]) = (92, 1) := dec_ascii (by decide)
      have d2 : Lib.decodeL (110 :: (t.flatMap qb ++ [34])) = (110, 1) := dec_ascii (by decide)
      have st1 : textL (f + 2) false acc pos ([92, 110] ++ t.flatMap qb ++ [34]) = textL (f + 1) true (acc ++ []) (pos + 1) (110 :: (t.flatMap qb ++ [34])) := by
        rw [textL_go (f := f + 1) (by simp) (by rw [d1]; rfl), d1]
        simp only [show tEsc false 92 = true from rfl, show tAdd false 92 = [] from rfl, List.cons_append, List.nil_append, List.drop_succ_cons, List.drop_zero]
      rw [st1]
      have e1 : tAdd true 110 = [10] := by decide +kernel
      have st2 : textL (f + 1) true (acc ++ []) (pos + 1) (110 :: (t.flatMap qb ++ [34])) = textL f false (acc ++ [] ++ [10]) (pos + 1 + 1) (t.flatMap qb ++ [34]) := by
        rw [textL_go (f := f) (by simp) (by rw [d2]; rfl), d2]
        simp only [e1, show tEsc true 110 = false from rfl, List.drop_succ_cons, List.drop_zero]
      rw [st2, ih f _ _ (by omega), hql]
      simp
      omega
    · have e : s.flatMap qb = s.take (Lib.decodeL s).2 ++ (s.drop (Lib.decodeL s).2).flatMap qb := by
        conv => lhs; rw [← List.take_append_drop (Lib.decodeL s).2 s, List.flatMap_append, hfl]
      have hql : ql s = (Lib.decodeL s).2 + ql (s.drop (Lib.decodeL s).2) := by
        unfold ql; rw [e, List.length_append, List.length_take]; omega
      obtain ⟨f, rfl⟩ : ∃ g, f = g + 1 := ⟨f - 1, by omega⟩
      have hd := dec_again hne v1 ((s.drop (Lib.decodeL s).2).flatMap qb ++ [34])
      rw [e, List.append_assoc, textL_go (app_ne (take_ne hne (by omega))) (by rw [hd]; simp [tGo, n1, n3]), hd, List.drop_append_of_le_length (by rw [List.length_take]; omega), List.drop_take, Nat.sub_self]
      have e1 : tAdd false (Lib.decodeL s).1 = s.take (Lib.decodeL s).2 := by
        unfold tAdd; rw [if_neg (by decide), if_neg (by omega), Lib.encode_decode s hne v1]
      have e2 : tEsc false (Lib.decodeL s).1 = false := by simp [tEsc, n2]
      rw [e1, e2, List.take_zero, List.nil_append, ih f _ _ (by omega), hql, List.append_assoc, List.take_append_drop, Nat.add_assoc]

theorem quoted_first {s : List UInt8} (hv : Lib.validD s = true) : firstF (quoteL s) = ⟨3, s, 0, 0, ql s + 2, 0, 0⟩ := by
  have h34 : (quoteL s).getD 0 0 = 34 := rfl
  unfold firstF
  rw [if_pos h34]
  have hl := quote_len s
  have ht : textL ((quoteL s).length - 1) false [] 0 ((quoteL s).drop 1) = (ql s, s) := by
    have := quoted_text s.length s (Nat.le_refl _) hv ((quoteL s).length - 1) [] 0 (by omega)
    rw [Nat.zero_add, List.nil_append] at this
    exact this
  rw [ftF_eq ht, if_neg, show 1 + ql s + 1 = ql s + 2 by omega]
  rintro (q | q)
  · omega
  · refine q ?_
    unfold quoteL
    rw [List.getD_eq_getElem?_getD, Nat.add_comm 1, List.getElem?_cons_succ, List.getElem?_append_right (by unfold ql; omega)]
    simp [ql]
/-- a quoted text of runes is one token, and says the text -/
theorem quoted_toks {s : List UInt8} (hv : Lib.validD s = true) (hl : (quoteL s).length ≤ 4000) : toksF (quoteL s) = ([⟨3, s, 0, 0, 0⟩], 0, 0) := by
  have hq := quote_len s
  have hval : Lib.validD (quoteL s) = true := by
    unfold quoteL
    rw [Lib.validD_step _ (by simp), dec_ascii (by decide), if_neg (by rintro ⟨a, _⟩; exact absurd a (by decide))]
    exact quoted_val s.length s (Nat.le_refl _) hv
  have hu := valid_utf (quoteL s) (quoteL s).length 0 (by omega) (Nat.zero_le _) (by rw [List.drop_zero]; exact hval)
  rw [List.drop_zero] at hu
  unfold toksF utfL
  rw [if_neg (by omega), if_neg (by omega), hq]
  have hf := quoted_first hv
  rw [toksL_go (by unfold quoteL; simp) (by rfl) (by rw [hf]), hf]
  simp only
  rw [List.drop_eq_nil_of_le (by omega), toksL_nil]
  rfl
end Go.Proofs.YtjjioikgligaoaaDoor
