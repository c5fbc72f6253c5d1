/- Plain facts: the tokens of two texts with a blank between. -/
import Derived.Test.YtjjioikgligaoaaDoorG4
namespace Go.Proofs.YtjjioikgligaoaaDoor

theorem getD_app {l u : List UInt8} {i : Nat} (h : i < l.length) : (l ++ u).getD i 0 = l.getD i 0 := by
  rw [List.getD_eq_getElem?_getD, List.getD_eq_getElem?_getD, List.getElem?_append_left h]
/-- a rune is read of its own bytes alone -/
theorem dec_app {l : List UInt8} (u : List UInt8) (hne : l ≠ []) (hv : ¬ ((Lib.decodeL l).1 = 65533 ∧ (Lib.decodeL l).2 = 1)) : Lib.decodeL (l ++ u) = Lib.decodeL l := by
  have hl : 0 < l.length := List.length_pos_iff.2 hne
  rw [Lib.decodeL_N] at hv ⊢
  rw [Lib.decodeL_N l]
  rw [getD_app hl]
  have hn : l.length ≤ (l ++ u).length := by simp
  rcases Lib.decodeN_shape l.length (l.getD 0 0).toNat (l.getD 1 0).toNat (l.getD 2 0).toNat (l.getD 3 0).toNat with ⟨c, e⟩ | ⟨c1, c2, c3, cv, e⟩ | ⟨c1, c2, c3, c4, cv, cs, e⟩ | ⟨c1, c2, c3, c4, c5, cv, cw, e⟩ | e
  · rw [e]; exact Lib.decodeN_ascii _ _ _ _ _ c
  · rw [e, getD_app (i := 1) (by omega)]
    generalize (l.getD 0 0).toNat = b0 at *
    generalize (l.getD 1 0).toNat = b1 at *
    unfold Lib.decodeN
    rw [if_neg (by omega), if_pos ⟨c1, by omega, c3⟩, if_pos (by omega)]
  · rw [e, getD_app (i := 1) (by omega), getD_app (i := 2) (by omega)]
    generalize (l.getD 0 0).toNat = b0 at *
    generalize (l.getD 1 0).toNat = b1 at *
    generalize (l.getD 2 0).toNat = b2 at *
    unfold Lib.decodeN
    rw [if_neg (by omega), if_neg (by omega), if_pos ⟨c1, ⟨by omega, c3⟩, by omega, c4⟩, if_pos (by omega)]
  · rw [e, getD_app (i := 1) (by omega), getD_app (i := 2) (by omega), getD_app (i := 3) (by omega)]
    generalize (l.getD 0 0).toNat = b0 at *
    generalize (l.getD 1 0).toNat = b1 at *
    generalize (l.getD 2 0).toNat = b2 at *
    generalize (l.getD 3 0).toNat = b3 at *
    unfold Lib.decodeN
    rw [if_neg (by omega), if_neg (by omega), if_neg (by omega), if_pos ⟨c1, ⟨by omega, c3⟩, ⟨by omega, c4⟩, by omega, c5⟩, if_pos (by omega)]
  · exact absurd (by rw [e]; exact ⟨rfl, rfl⟩) hv
theorem app_ne {l u : List UInt8} (h : l ≠ []) : l ++ u ≠ [] := by intro e; exact h (List.append_eq_nil_iff.1 e).1
theorem drop_app {l u : List UInt8} {n : Nat} (h : n ≤ l.length) : (l ++ u).drop n = l.drop n ++ u := by
  rw [List.drop_append_of_le_length h]
theorem val_app : ∀ (n : Nat) (l u : List UInt8), l.length ≤ n → Lib.validD l = true → Lib.validD u = true → Lib.validD (l ++ u) = true
  | 0, l, u, h, _, hu => by
    have : l = [] := List.eq_nil_of_length_eq_zero (by omega)
    subst this; simpa using hu
  | n + 1, l, u, h, hl, hu => by
    by_cases hne : l = []
    · subst hne; simpa using hu
    · obtain ⟨v1, v2⟩ := val_step hl hne
      have hw := Lib.decodeL_width l
      have hle := Lib.decodeL_le l hne
      rw [Lib.validD_step _ (app_ne hne), dec_app u hne v1, if_neg v1, drop_app hle]
      exact val_app n _ u (by rw [List.length_drop]; omega) v2 hu
/-- what stops at a blank does not see what stands behind it -/
theorem lead_app {G : Nat → Nat → Bool} (hG : ∀ p, G p 32 = false) (r : List UInt8) : ∀ (f F pos : Nat) (l : List UInt8), l.length ≤ f → l.length < F → Lib.validD l = true → leadL G F pos (l ++ 32 :: r) = leadL G f pos l
  | f, 0, pos, l, _, hF, _ => by omega
  | f, F + 1, pos, l, hf, hF, hv => by
    by_cases hne : l = []
    · subst hne
      rw [leadL_nil, List.nil_append, leadL_stop (by simp) (by rw [dec_ascii (by decide)]; exact hG pos)]
    · obtain ⟨v1, v2⟩ := val_step hv hne
      have hw := Lib.decodeL_width l
      have hle := Lib.decodeL_le l hne
      have hl : 0 < l.length := List.length_pos_iff.2 hne
      obtain ⟨f', rfl⟩ : ∃ f', f = f' + 1 := ⟨f - 1, by omega⟩
      cases g : G pos (Lib.decodeL l).1
      · rw [leadL_stop hne g, leadL_stop (app_ne hne) (by rw [dec_app _ hne v1]; exact g)]
      · rw [leadL_go hne g, leadL_go (app_ne hne) (by rw [dec_app _ hne v1]; exact g), dec_app _ hne v1, drop_app hle]
        exact lead_app hG r f' F _ _ (by rw [List.length_drop]; omega) (by rw [List.length_drop]; omega) v2
theorem text_app (u : List UInt8) : ∀ (f F : Nat) (esc : Bool) (acc : List UInt8) (pos : Nat) (l : List UInt8), l.length ≤ f → l.length ≤ F → Lib.validD l = true → (textL f esc acc pos l).1 < pos + l.length → textL F esc acc pos (l ++ u) = textL f esc acc pos l
  | f, 0, esc, acc, pos, l, hf, hF, hv, h => by
    have : l = [] := List.eq_nil_of_length_eq_zero (by omega)
    subst this; rw [textL_nil] at h; simp at h
  | f, F + 1, esc, acc, pos, l, hf, hF, hv, h => by
    by_cases hne : l = []
    · subst hne; rw [textL_nil] at h; simp at h
    · obtain ⟨v1, v2⟩ := val_step hv hne
      have hw := Lib.decodeL_width l
      have hle := Lib.decodeL_le l hne
      have hl : 0 < l.length := List.length_pos_iff.2 hne
      obtain ⟨f', rfl⟩ : ∃ f', f = f' + 1 := ⟨f - 1, by omega⟩
      cases g : tGo esc (Lib.decodeL l).1
      · rw [textL_stop hne g, textL_stop (app_ne hne) (by rw [dec_app _ hne v1]; exact g), dec_app _ hne v1]
      · rw [textL_go hne g] at h ⊢
        rw [textL_go (app_ne hne) (by rw [dec_app _ hne v1]; exact g), dec_app _ hne v1, drop_app hle]
        exact text_app u f' F _ _ _ _ (by rw [List.length_drop]; omega) (by rw [List.length_drop]; omega) v2 (by rw [List.length_drop]; omega)
theorem gDig_32 : ∀ p, gDig p 32 = false := fun _ => rfl
theorem gWord_32 : ∀ p, gWord p 32 = false := by
  intro p
  have : Lib.isLetterU ((32 : Nat) : Int) = false := by decide +kernel
  unfold gWord
  rw [this, show isDgR ((32 : Nat) : Int) = false from rfl]
  simp
theorem sign_app (r : List UInt8) : ∀ (gs : List (List UInt8)) (l : List UInt8), l ≠ [] → (∀ g ∈ gs, 1 ≤ g.length ∧ ∀ b ∈ g, b ≠ 32) → signF gs (l ++ 32 :: r) = signF gs l
  | [], l, _, _ => rfl
  | g :: gs, l, hne, hg => by
    have e : Lib.hasPrefix (l ++ 32 :: r) g = Lib.hasPrefix l g := by
      rw [Bool.eq_iff_iff]
      unfold Lib.hasPrefix
      rw [List.isPrefixOf_iff_prefix, List.isPrefixOf_iff_prefix]
      constructor
      · intro h
        rcases Nat.lt_or_ge l.length g.length with q | q
        · obtain ⟨t, ht⟩ := h
          have h32 : g[l.length]? = some 32 := by
            have h1 : (g ++ t)[l.length]? = some 32 := by rw [ht, List.getElem?_append_right (Nat.le_refl _)]; simp
            rwa [List.getElem?_append_left q] at h1
          exact absurd rfl ((hg g (List.mem_cons_self ..)).2 32 (List.mem_of_getElem? h32))
        · exact List.prefix_of_prefix_length_le h (List.prefix_append _ _) q
      · intro h; exact h.trans (List.prefix_append _ _)
    rw [signF, signF, e, sign_app r gs l hne (fun x hx => hg x (List.mem_cons_of_mem _ hx))]

theorem takeWhile_app (r : List UInt8) : ∀ u : List UInt8, (u ++ 32 :: r).takeWhile isDg = u.takeWhile isDg
  | [] => by simp [show isDg 32 = false from rfl]
  | b :: t => by
    rw [List.cons_append, List.takeWhile_cons, List.takeWhile_cons, takeWhile_app r t]
theorem lead_dig_app (r l : List UInt8) : leadL gDig (l ++ 32 :: r).length 0 (l ++ 32 :: r) = leadL gDig l.length 0 l := by
  rw [lead_dig _ _ _ (Nat.le_refl _), lead_dig _ _ _ (Nat.le_refl _), takeWhile_app]
theorem hasPrefix_46 (r u : List UInt8) : Lib.hasPrefix (u ++ 32 :: r) [46] = Lib.hasPrefix u [46] := by
  cases u with
  | nil => rfl
  | cons b t => unfold Lib.hasPrefix; simp [List.isPrefixOf]
theorem numEnd_app {l : List UInt8} (r : List UInt8) {n : Nat} (h : n ≤ l.length) : numEnd (l ++ 32 :: r) n = numEnd l n := by
  unfold numEnd
  rw [drop_app h, hasPrefix_46]
  by_cases hp : Lib.hasPrefix (l.drop n) [46] = true
  · have e : Lib.trimPrefix (l.drop n ++ 32 :: r) [46] = Lib.trimPrefix (l.drop n) [46] ++ 32 :: r := by
      unfold Lib.trimPrefix
      rw [hasPrefix_46, if_pos hp, if_pos hp]
      cases q : l.drop n with
      | nil => rw [q] at hp; simp [Lib.hasPrefix] at hp
      | cons b t => rfl
    rw [e, lead_dig_app]
  · rw [if_neg (fun q => hp q.1), if_neg (fun q => hp q.1)]
theorem take_app {l u : List UInt8} {n : Nat} (h : n ≤ l.length) : (l ++ u).take n = l.take n := List.take_append_of_le_length h

theorem first_app {l : List UInt8} (r : List UInt8) (hne : l ≠ []) (hv : Lib.validD l = true) (he : (firstF l).e = 0) : firstF (l ++ 32 :: r) = firstF l := by
  have hl : 0 < l.length := List.length_pos_iff.2 hne
  have hv1 : l.getD 0 0 = 34 → Lib.validD (l.drop 1) = true := by
    intro h34
    refine val_run 1 l hv (fun b hb => ?_)
    rw [take_one hne, h34] at hb
    simp at hb; rw [hb]; decide
  have hw : leadL gWord (l ++ 32 :: r).length 0 (l ++ 32 :: r) = leadL gWord l.length 0 l := lead_app gWord_32 r _ _ 0 l (Nat.le_refl _) (by simp) hv
  have hwl := leadL_le gWord l.length 0 l
  have hdl := leadL_le gDig l.length 0 l
  unfold firstF at he ⊢
  rw [getD_app hl, lead_dig_app, hw]
  split
  · rename_i h34
    rw [if_pos h34] at he
    have hq := ftF_eq (l := l) (p := (textL (l.length - 1) false [] 0 (l.drop 1)).1) (said := (textL (l.length - 1) false [] 0 (l.drop 1)).2) rfl
    have ht := textL_le (l.length - 1) false [] 0 (l.drop 1)
    rw [List.length_drop] at ht
    rw [hq] at he ⊢
    split at he
    · exact absurd he (by decide : ¬ (2 : Int) = 0)
    · rename_i hc
      have hc1 : ¬ 1 + (textL (l.length - 1) false [] 0 (l.drop 1)).1 = l.length := fun q => hc (.inl q)
      have ta := text_app (32 :: r) (l.length - 1) ((l ++ 32 :: r).length - 1) false [] 0 (l.drop 1) (by rw [List.length_drop]; omega) (by rw [List.length_drop, List.length_append]; omega) (hv1 h34) (by rw [List.length_drop]; omega)
      have hq2 := ftF_eq (l := l ++ 32 :: r) (p := (textL (l.length - 1) false [] 0 (l.drop 1)).1) (said := (textL (l.length - 1) false [] 0 (l.drop 1)).2) (by rw [drop_app hl, ta])
      rw [hq2, if_neg hc, if_neg]
      rintro (q | q)
      · rw [List.length_append, List.length_cons] at q; omega
      · rw [getD_app (by omega)] at q
        exact hc (.inr q)
  · rename_i h34
    rw [if_neg h34] at he
    split
    · rename_i hd
      unfold fnF
      rw [numEnd_app r (by omega), take_app (numEnd_le l _ (by omega))]
    · rename_i hd
      split
      · rw [take_app (by omega)]
      · exact sign_app r signsL l hne (by decide)

/-- the tokens do not hang on how much may be looked at -/
theorem toks_app (r : List UInt8) : ∀ (f F at' : Nat) (l : List UInt8) (acc : List Tk), l.length ≤ f → l.length < F → Lib.validD l = true → (toksL f at' l acc).2.1 = 0 → ∃ F', F ≤ F' + l.length + 1 ∧ toksL F at' (l ++ 32 :: r) acc = toksL F' (at' + l.length + 1) r (toksL f at' l acc).1
  | f, 0, at', l, acc, _, hF, _, _ => by omega
  | f, F + 1, at', l, acc, hf, hF, hv, h => by
    by_cases hne : l = []
    · subst hne
      rw [toksL_nil, List.nil_append, toksL_bl (by simp) rfl]
      exact ⟨F, by simp, by simp⟩
    · have hl : 0 < l.length := List.length_pos_iff.2 hne
      obtain ⟨f', rfl⟩ : ∃ f', f = f' + 1 := ⟨f - 1, by omega⟩
      cases hbl : isBl (l.getD 0 0).toNat
      · by_cases h0 : (firstF l).e = 0
        · have fa := first_app r hne hv h0
          obtain ⟨b1, b2⟩ := (first_bd l hne).1 h0
          obtain ⟨w1, w2⟩ := first_wl hne hv h0
          rw [toksL_go hne hbl h0] at h ⊢
          rw [toksL_go (app_ne hne) (by rw [getD_app hl]; exact hbl) (by rw [fa]; exact h0), fa, drop_app b2]
          obtain ⟨F', g1, g2⟩ := toks_app r f' F (at' + (firstF l).n) (l.drop (firstF l).n) (acc ++ [⟨(firstF l).k, (firstF l).t, (firstF l).c, (firstF l).x, at'⟩]) (by rw [List.length_drop]; omega) (by rw [List.length_drop]; omega) w2 h
          rw [List.length_drop] at g1 g2
          refine ⟨F', by omega, ?_⟩
          rw [g2]
          congr 1
          omega
        · rw [toksL_no hne hbl h0] at h; exact absurd h h0
      · rw [toksL_bl hne hbl] at h ⊢
        rw [toksL_bl (app_ne hne) (by rw [getD_app hl]; exact hbl), drop_app hl]
        have v2 : Lib.validD (l.drop 1) = true := by
          refine val_run 1 l hv (fun b hb => ?_)
          rw [take_one hne] at hb
          simp at hb
          rw [hb]
          unfold isBl at hbl
          simp at hbl
          omega
        obtain ⟨F', g1, g2⟩ := toks_app r f' F (at' + 1) (l.drop 1) acc (by rw [List.length_drop]; omega) (by rw [List.length_drop]; omega) v2 h
        rw [List.length_drop] at g1 g2
        refine ⟨F', by omega, ?_⟩
        rw [g2]
        congr 1
        omega
def shift (d : Nat) (t : Tk) : Tk := ⟨t.k, t.t, t.c, t.x, t.a + d⟩
theorem toks_shift (d : Nat) : ∀ (f F at' : Nat) (l : List UInt8) (acc pre : List Tk), l.length ≤ f → l.length ≤ F → (toksL f at' l acc).2.1 = 0 → toksL F (at' + d) l (pre ++ acc.map (shift d)) = (pre ++ (toksL f at' l acc).1.map (shift d), 0, 0)
  | f, 0, at', l, acc, pre, _, hF, h => by
    have : l = [] := List.eq_nil_of_length_eq_zero (by omega)
    subst this; rw [toksL_nil, toksL_nil]
  | f, F + 1, at', l, acc, pre, hf, hF, h => by
    by_cases hne : l = []
    · subst hne; rw [toksL_nil, toksL_nil]
    · have hl : 0 < l.length := List.length_pos_iff.2 hne
      obtain ⟨f', rfl⟩ : ∃ f', f = f' + 1 := ⟨f - 1, by omega⟩
      cases hbl : isBl (l.getD 0 0).toNat
      · by_cases h0 : (firstF l).e = 0
        · obtain ⟨b1, b2⟩ := (first_bd l hne).1 h0
          rw [toksL_go hne hbl h0] at h ⊢
          rw [toksL_go hne hbl h0]
          have := toks_shift d f' F (at' + (firstF l).n) (l.drop (firstF l).n) (acc ++ [⟨(firstF l).k, (firstF l).t, (firstF l).c, (firstF l).x, at'⟩]) pre (by rw [List.length_drop]; omega) (by rw [List.length_drop]; omega) h
          rw [← this]
          simp only [List.map_append, List.map_cons, List.map_nil, shift, List.append_assoc]
          congr 1
          omega
        · rw [toksL_no hne hbl h0] at h; exact absurd h h0
      · rw [toksL_bl hne hbl] at h ⊢
        rw [toksL_bl hne hbl]
        have := toks_shift d f' F (at' + 1) (l.drop 1) acc pre (by rw [List.length_drop]; omega) (by rw [List.length_drop]; omega) h
        rw [← this]
        congr 1
        omega

theorem toksF_valid {l : List UInt8} (h : (toksF l).2.1 = 0) : l.length ≤ 4000 ∧ Lib.validD l = true ∧ toksF l = toksL l.length 0 l [] := by
  unfold toksF at h ⊢
  split at h
  · exact absurd h (by decide : ¬ (4 : Int) = 0)
  · rename_i h1
    rw [if_neg h1]
    split at h
    · exact absurd h (by decide : ¬ (2 : Int) = 0)
    · rename_i h2
      rw [if_neg h2]
      have hle := leadL_le (gUtf l) l.length 0 l
      refine ⟨by omega, ?_, rfl⟩
      have := utf_valid l l.length 0 (by omega) (Nat.zero_le _)
      rw [List.drop_zero] at this
      exact this (by unfold utfL at h2; omega)
theorem valid_utf (L : List UInt8) : ∀ (f pos : Nat), L.length ≤ pos + f → pos ≤ L.length → Lib.validD (L.drop pos) = true → leadL (gUtf L) f pos (L.drop pos) = L.length
  | 0, pos, hf, hp, _ => by rw [leadL]; omega
  | f + 1, pos, hf, hp, h => by
    by_cases hne : L.drop pos = []
    · rw [hne, leadL_nil]
      have := congrArg List.length hne; rw [List.length_drop, List.length_nil] at this; omega
    · obtain ⟨v1, v2⟩ := val_step h hne
      have hw := Lib.decodeL_width (L.drop pos)
      have hl := Lib.decodeL_le (L.drop pos) hne
      have g : gUtf L pos (Lib.decodeL (L.drop pos)).1 = true := by
        unfold gUtf
        by_cases q : (Lib.decodeL (L.drop pos)).1 = 65533
        · have e := Lib.encode_decode (L.drop pos) hne v1
          rw [q, show Lib.encodeRune ((65533 : Nat) : Int) = [239, 191, 189] by decide +kernel] at e
          have : Lib.hasPrefix (L.drop pos) [239, 191, 189] = true := by
            unfold Lib.hasPrefix
            rw [List.isPrefixOf_iff_prefix, e]
            exact List.take_prefix _ _
          rw [this]; simp
        · simp [q]
      rw [leadL_go hne g, List.drop_drop] 
      rw [List.drop_drop] at v2
      rw [List.length_drop] at hl
      exact valid_utf L f _ (by omega) (by omega) v2
/-- two texts, a blank between, are the tokens of both -/
theorem toks_join {s t : List UInt8} (hs : (toksF s).2.1 = 0) (ht : (toksF t).2.1 = 0) (hl : s.length + t.length + 1 ≤ 4000) : toksF (s ++ 32 :: t) = ((toksF s).1 ++ (toksF t).1.map (shift (s.length + 1)), 0, 0) := by
  obtain ⟨s1, s2, s3⟩ := toksF_valid hs
  obtain ⟨t1, t2, t3⟩ := toksF_valid ht
  have hlen : (s ++ 32 :: t).length = s.length + t.length + 1 := by simp; omega
  have hv : Lib.validD (s ++ 32 :: t) = true := by
    refine val_app s.length s (32 :: t) (Nat.le_refl _) s2 ?_
    rw [Lib.validD_step _ (by simp), dec_ascii (by decide)]
    simpa using t2
  have hu : utfL (s ++ 32 :: t) = (s ++ 32 :: t).length := by
    have := valid_utf (s ++ 32 :: t) (s ++ 32 :: t).length 0 (by omega) (Nat.zero_le _)
    rw [List.drop_zero] at this
    exact this hv
  rw [s3] at hs ⊢
  rw [t3] at ht ⊢
  obtain ⟨F', g1, g2⟩ := toks_app t s.length (s ++ 32 :: t).length 0 s [] (Nat.le_refl _) (by omega) s2 hs
  unfold toksF
  rw [if_neg (by omega), hu, if_neg (by omega), g2, Nat.zero_add]
  have := toks_shift (s.length + 1) t.length F' 0 t [] (toksL s.length 0 s []).1 (Nat.le_refl _) (by omega) ht
  rw [Nat.zero_add] at this
  simpa [Nat.add_assoc] using this
end Go.Proofs.YtjjioikgligaoaaDoor
