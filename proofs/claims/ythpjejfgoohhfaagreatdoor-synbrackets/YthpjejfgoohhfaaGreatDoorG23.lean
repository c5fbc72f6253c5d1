/- Plain facts: the tokens of a text with a bracket behind (after stage 3's H1). -/
import Derived.Test.YthpjejfgoohhfaaGreatDoorG22
import Derived.Test.YthpjejfgoohhfaaGreatDoorG21
namespace Go.Proofs.YthpjejfgoohhfaaGreatDoor.Pp
open Go.Proofs.YthpjejfgoohhfaaGreatDoor

theorem getD_app {l u : List UInt8} {i : Nat} (h : i < l.length) : (l ++ u).getD i 0 = l.getD i 0 := by
  rw [List.getD_eq_getElem?_getD, List.getD_eq_getElem?_getD, List.getElem?_append_left h]
/-- a rune is read of its own bytes alone -/
theorem dec_app {l : List UInt8} (u : List UInt8) (hne : l ≠ []) (hv : ¬ ((Lib.decodeL l).1 = 65533 ∧ (Lib.decodeL l).2 = 1)) : Lib.decodeL (l ++ u) = Lib.decodeL l := by
  have hl : 0 < l.length := List.length_pos_iff.2 hne
  rw [Lib.decodeL_N] at hv ⊢
  rw [Lib.decodeL_N l]
  rw [getD_app hl]
  have hn : l.length ≤ (l ++ u).length := by simp
  rcases Lib.decodeN_shape l.length (l.getD 0 0).toNat (l.getD 1 0).toNat (l.getD 2 0).toNat (l.getD 3 0).toNat with ⟨c, e⟩ | ⟨c1, c2, c3, cv, e⟩ | ⟨c1, c2, c3, c4, cv, cs, e⟩ | ⟨c1, c2, c3, c4, c5, cv, cw, e⟩ | e
  · rw [e]; exact Lib.decodeN_ascii _ _ _ _ _ c
  · rw [e, getD_app (i := 1) (by omega)]
    generalize (l.getD 0 0).toNat = b0 at *
    generalize (l.getD 1 0).toNat = b1 at *
    unfold Lib.decodeN
    rw [if_neg (by omega), if_pos ⟨c1, by omega, c3⟩, if_pos (by omega)]
  · rw [e, getD_app (i := 1) (by omega), getD_app (i := 2) (by omega)]
    generalize (l.getD 0 0).toNat = b0 at *
    generalize (l.getD 1 0).toNat = b1 at *
    generalize (l.getD 2 0).toNat = b2 at *
    unfold Lib.decodeN
    rw [if_neg (by omega), if_neg (by omega), if_pos ⟨c1, ⟨by omega, c3⟩, by omega, c4⟩, if_pos (by omega)]
  · rw [e, getD_app (i := 1) (by omega), getD_app (i := 2) (by omega), getD_app (i := 3) (by omega)]
    generalize (l.getD 0 0).toNat = b0 at *
    generalize (l.getD 1 0).toNat = b1 at *
    generalize (l.getD 2 0).toNat = b2 at *
    generalize (l.getD 3 0).toNat = b3 at *
    unfold Lib.decodeN
    rw [if_neg (by omega), if_neg (by omega), if_neg (by omega), if_pos ⟨c1, ⟨by omega, c3⟩, ⟨by omega, c4⟩, by omega, c5⟩, if_pos (by omega)]
  · exact absurd (by rw [e]; exact ⟨rfl, rfl⟩) hv
theorem app_ne {l u : List UInt8} (h : l ≠ []) : l ++ u ≠ [] := by intro e; exact h (List.append_eq_nil_iff.1 e).1
theorem drop_app {l u : List UInt8} {n : Nat} (h : n ≤ l.length) : (l ++ u).drop n = l.drop n ++ u := by
  rw [List.drop_append_of_le_length h]
theorem val_app : ∀ (n : Nat) (l u : List UInt8), l.length ≤ n → Lib.validD l = true → Lib.validD u = true → Lib.validD (l ++ u) = true
  | 0, l, u, h, _, hu => by
    have : l = [] := List.eq_nil_of_length_eq_zero (by omega)
    subst this; simpa using hu
  | n + 1, l, u, h, hl, hu => by
    by_cases hne : l = []
    · subst hne; simpa using hu
    · obtain ⟨v1, v2⟩ := val_step hl hne
      have hw := Lib.decodeL_width l
      have hle := Lib.decodeL_le l hne
      rw [Lib.validD_step _ (app_ne hne), dec_app u hne v1, if_neg v1, drop_app hle]
      exact val_app n _ u (by rw [List.length_drop]; omega) v2 hu
/-- what stops at a blank does not see what stands behind it -/
theorem lead_app {G : Nat → Nat → Bool} (hG : ∀ p, G p 41 = false) (r : List UInt8) : ∀ (f F pos : Nat) (l : List UInt8), l.length ≤ f → l.length < F → Lib.validD l = true → leadL G F pos (l ++ 41 :: r) = leadL G f pos l
  | f, 0, pos, l, _, hF, _ => by omega
  | f, F + 1, pos, l, hf, hF, hv => by
    by_cases hne : l = []
    · subst hne
      rw [leadL_nil, List.nil_append, leadL_stop (by simp) (by rw [dec_ascii (by decide)]; exact hG pos)]
    · obtain ⟨v1, v2⟩ := val_step hv hne
      have hw := Lib.decodeL_width l
      have hle := Lib.decodeL_le l hne
      have hl : 0 < l.length := List.length_pos_iff.2 hne
      obtain ⟨f', rfl⟩ : ∃ f', f = f' + 1 := ⟨f - 1, by omega⟩
      cases g : G pos (Lib.decodeL l).1
      · rw [leadL_stop hne g, leadL_stop (app_ne hne) (by rw [dec_app _ hne v1]; exact g)]
      · rw [leadL_go hne g, leadL_go (app_ne hne) (by rw [dec_app _ hne v1]; exact g), dec_app _ hne v1, drop_app hle]
        exact lead_app hG r f' F _ _ (by rw [List.length_drop]; omega) (by rw [List.length_drop]; omega) v2
theorem text_app (u : List UInt8) : ∀ (f F : Nat) (esc : Bool) (acc : List UInt8) (pos : Nat) (l : List UInt8), l.length ≤ f → l.length ≤ F → Lib.validD l = true → (textL f esc acc pos l).1 < pos + l.length → textL F esc acc pos (l ++ u) = textL f esc acc pos l
  | f, 0, esc, acc, pos, l, hf, hF, hv, h => by
    have : l = [] := List.eq_nil_of_length_eq_zero (by omega)
    subst this; rw [textL_nil] at h; simp at h
  | f, F + 1, esc, acc, pos, l, hf, hF, hv, h => by
    by_cases hne : l = []
    · subst hne; rw [textL_nil] at h; simp at h
    · obtain ⟨v1, v2⟩ := val_step hv hne
      have hw := Lib.decodeL_width l
      have hle := Lib.decodeL_le l hne
      have hl : 0 < l.length := List.length_pos_iff.2 hne
      obtain ⟨f', rfl⟩ : ∃ f', f = f' + 1 := ⟨f - 1, by omega⟩
      cases g : tGo esc (Lib.decodeL l).1
      · rw [textL_stop hne g, textL_stop (app_ne hne) (by rw [dec_app _ hne v1]; exact g), dec_app _ hne v1]
      · rw [textL_go hne g] at h ⊢
        rw [textL_go (app_ne hne) (by rw [dec_app _ hne v1]; exact g), dec_app _ hne v1, drop_app hle]
        exact text_app u f' F _ _ _ _ (by rw [List.length_drop]; omega) (by rw [List.length_drop]; omega) v2 (by rw [List.length_drop]; omega)
theorem gDig_41 : ∀ p, gDig p 41 = false := fun _ => rfl
theorem gWord_41 : ∀ p, gWord p 41 = false := by
  intro p
  have : Lib.isLetterU ((41 : Nat) : Int) = false := by decide +kernel
  unfold gWord
  rw [this, show isDgR ((41 : Nat) : Int) = false from rfl]
  simp
theorem sign_app (r : List UInt8) : ∀ (gs : List (List UInt8)) (l : List UInt8), l ≠ [] → (∀ g ∈ gs, 1 ≤ g.length ∧ ∀ b ∈ g.tail, b ≠ 41) → signF gs (l ++ 41 :: r) = signF gs l
  | [], l, _, _ => rfl
  | g :: gs, l, hne, hg => by
    have e : Lib.hasPrefix (l ++ 41 :: r) g = Lib.hasPrefix l g := by
      rw [Bool.eq_iff_iff]
      unfold Lib.hasPrefix
      rw [List.isPrefixOf_iff_prefix, List.isPrefixOf_iff_prefix]
      constructor
      · intro h
        rcases Nat.lt_or_ge l.length g.length with q | q
        · obtain ⟨t, ht⟩ := h
          have h41 : g[l.length]? = some 41 := by
            have h1 : (g ++ t)[l.length]? = some 41 := by rw [ht, List.getElem?_append_right (Nat.le_refl _)]; simp
            rwa [List.getElem?_append_left q] at h1
          have hl1 : 1 ≤ l.length := by cases l with
            | nil => exact absurd rfl hne
            | cons _ _ => simp
          have ht2 : g.tail[l.length - 1]? = some 41 := by rw [List.getElem?_tail, show l.length - 1 + 1 = l.length by omega]; exact h41
          exact absurd rfl ((hg g (List.mem_cons_self ..)).2 41 (List.mem_of_getElem? ht2))
        · exact List.prefix_of_prefix_length_le h (List.prefix_append _ _) q
      · intro h; exact h.trans (List.prefix_append _ _)
    rw [signF, signF, e, sign_app r gs l hne (fun x hx => hg x (List.mem_cons_of_mem _ hx))]

theorem takeWhile_app (r : List UInt8) : ∀ u : List UInt8, (u ++ 41 :: r).takeWhile isDg = u.takeWhile isDg
  | [] => by simp [show isDg 41 = false from rfl]
  | b :: t => by
    rw [List.cons_append, List.takeWhile_cons, List.takeWhile_cons, takeWhile_app r t]
theorem lead_dig_app (r l : List UInt8) : leadL gDig (l ++ 41 :: r).length 0 (l ++ 41 :: r) = leadL gDig l.length 0 l := by
  rw [lead_dig _ _ _ (Nat.le_refl _), lead_dig _ _ _ (Nat.le_refl _), takeWhile_app]
theorem hasPrefix_46 (r u : List UInt8) : Lib.hasPrefix (u ++ 41 :: r) [46] = Lib.hasPrefix u [46] := by
  cases u with
  | nil => rfl
  | cons b t => unfold Lib.hasPrefix; simp [List.isPrefixOf]
theorem numEnd_app {l : List UInt8} (r : List UInt8) {n : Nat} (h : n ≤ l.length) : numEnd (l ++ 41 :: r) n = numEnd l n := by
  unfold numEnd
  rw [drop_app h, hasPrefix_46]
  by_cases hp : Lib.hasPrefix (l.drop n) [46] = true
  · have e : Lib.trimPrefix (l.drop n ++ 41 :: r) [46] = Lib.trimPrefix (l.drop n) [46] ++ 41 :: r := by
      unfold Lib.trimPrefix
      rw [hasPrefix_46, if_pos hp, if_pos hp]
      cases q : l.drop n with
      | nil => rw [q] at hp; simp [Lib.hasPrefix] at hp
      | cons b t => rfl
    rw [e, lead_dig_app]
  · rw [if_neg (fun q => hp q.1), if_neg (fun q => hp q.1)]
theorem take_app {l u : List UInt8} {n : Nat} (h : n ≤ l.length) : (l ++ u).take n = l.take n := List.take_append_of_le_length h

theorem first_app {l : List UInt8} (r : List UInt8) (hne : l ≠ []) (hv : Lib.validD l = true) (he : (firstF l).e = 0) : firstF (l ++ 41 :: r) = firstF l := by
  have hl : 0 < l.length := List.length_pos_iff.2 hne
  have hv1 : l.getD 0 0 = 34 → Lib.validD (l.drop 1) = true := by
    intro h34
    refine val_run 1 l hv (fun b hb => ?_)
    rw [take_one hne, h34] at hb
    simp at hb; rw [hb]; decide
  have hw : leadL gWord (l ++ 41 :: r).length 0 (l ++ 41 :: r) = leadL gWord l.length 0 l := lead_app gWord_41 r _ _ 0 l (Nat.le_refl _) (by simp) hv
  have hwl := leadL_le gWord l.length 0 l
  have hdl := leadL_le gDig l.length 0 l
  unfold firstF at he ⊢
  rw [getD_app hl, lead_dig_app, hw]
  split
  · rename_i h34
    rw [if_pos h34] at he
    have hq := ftF_eq (l := l) (p := (textL (l.length - 1) false [] 0 (l.drop 1)).1) (said := (textL (l.length - 1) false [] 0 (l.drop 1)).2) rfl
    have ht := textL_le (l.length - 1) false [] 0 (l.drop 1)
    rw [List.length_drop] at ht
    rw [hq] at he ⊢
    split at he
    · exact absurd he (by decide : ¬ (2 : Int) = 0)
    · rename_i hc
      have hc1 : ¬ 1 + (textL (l.length - 1) false [] 0 (l.drop 1)).1 = l.length := fun q => hc (.inl q)
      have ta := text_app (41 :: r) (l.length - 1) ((l ++ 41 :: r).length - 1) false [] 0 (l.drop 1) (by rw [List.length_drop]; omega) (by rw [List.length_drop, List.length_append]; omega) (hv1 h34) (by rw [List.length_drop]; omega)
      have hq2 := ftF_eq (l := l ++ 41 :: r) (p := (textL (l.length - 1) false [] 0 (l.drop 1)).1) (said := (textL (l.length - 1) false [] 0 (l.drop 1)).2) (by rw [drop_app hl, ta])
      rw [hq2, if_neg hc, if_neg]
      rintro (q | q)
      · rw [List.length_append, List.length_cons] at q; omega
      · rw [getD_app (by omega)] at q
        exact hc (.inr q)
  · rename_i h34
    rw [if_neg h34] at he
    split
    · rename_i hd
      unfold fnF
      rw [numEnd_app r (by omega), take_app (numEnd_le l _ (by omega))]
    · rename_i hd
      split
      · rw [take_app (by omega)]
      · exact sign_app r signsL l hne (by decide)

/-- the tokens do not hang on how much may be looked at -/
theorem toks_app (r : List UInt8) : ∀ (f F at' : Nat) (l : List UInt8) (acc : List Tk), l.length ≤ f → l.length < F → Lib.validD l = true → (toksL f at' l acc).2.1 = 0 → ∃ F', F ≤ F' + l.length ∧ F' ≤ F ∧ toksL F at' (l ++ 41 :: r) acc = toksL F' (at' + l.length) (41 :: r) (toksL f at' l acc).1
  | f, 0, at', l, acc, _, hF, _, _ => by omega
  | f, F + 1, at', l, acc, hf, hF, hv, h => by
    by_cases hne : l = []
    · subst hne
      rw [toksL_nil, List.nil_append]
      exact ⟨F + 1, by simp, Nat.le_refl _, by simp⟩
    · have hl : 0 < l.length := List.length_pos_iff.2 hne
      obtain ⟨f', rfl⟩ : ∃ f', f = f' + 1 := ⟨f - 1, by omega⟩
      cases hbl : isBl (l.getD 0 0).toNat
      · by_cases h0 : (firstF l).e = 0
        · have fa := first_app r hne hv h0
          obtain ⟨b1, b2⟩ := (first_bd l hne).1 h0
          obtain ⟨w1, w2⟩ := first_wl hne hv h0
          rw [toksL_go hne hbl h0] at h ⊢
          rw [toksL_go (app_ne hne) (by rw [getD_app hl]; exact hbl) (by rw [fa]; exact h0), fa, drop_app b2]
          obtain ⟨F', g1, g3, g2⟩ := toks_app r f' F (at' + (firstF l).n) (l.drop (firstF l).n) (acc ++ [⟨(firstF l).k, (firstF l).t, (firstF l).c, (firstF l).x, at'⟩]) (by rw [List.length_drop]; omega) (by rw [List.length_drop]; omega) w2 h
          rw [List.length_drop] at g1 g2
          refine ⟨F', by omega, by omega, ?_⟩
          rw [g2]
          congr 1
          omega
        · rw [toksL_no hne hbl h0] at h; exact absurd h h0
      · rw [toksL_bl hne hbl] at h ⊢
        rw [toksL_bl (app_ne hne) (by rw [getD_app hl]; exact hbl), drop_app hl]
        have v2 : Lib.validD (l.drop 1) = true := by
          refine val_run 1 l hv (fun b hb => ?_)
          rw [take_one hne] at hb
          simp at hb
          rw [hb]
          unfold isBl at hbl
          simp at hbl
          omega
        obtain ⟨F', g1, g3, g2⟩ := toks_app r f' F (at' + 1) (l.drop 1) acc (by rw [List.length_drop]; omega) (by rw [List.length_drop]; omega) v2 h
        rw [List.length_drop] at g1 g2
        refine ⟨F', by omega, by omega, ?_⟩
        rw [g2]
        congr 1
        omega
end Go.Proofs.YthpjejfgoohhfaaGreatDoor.Pp

/- Brackets around all: what was read is read again, one bracket further in, or there is too much of it (plain). -/
namespace Go.Proofs.YthpjejfgoohhfaaGreatDoor
open Go.RowKit

theorem m1 : (-1 : Int) ≠ 0 := by decide
/-- what was read well ends within, and is read again one further, or there is too much -/
def R1 {α : Type} (len : Nat) (r r' : Int × α × Nat) : Prop := r.1 = 0 → r.2.2 ≤ len ∧ (r' = (0, r.2.1, r.2.2 + 1) ∨ r'.1 = 4)
theorem R1.bad {α : Type} {len : Nat} {r r' : Int × α × Nat} (h : r.1 ≠ 0) : R1 len r r' := fun c => absurd c h
theorem R1.ok {α : Type} {len j : Nat} {x : α} (h : j ≤ len) : R1 len (0, x, j) (0, x, j + 1) := fun _ => ⟨h, .inl rfl⟩
theorem R1.much {α : Type} {len : Nat} {r r' : Int × α × Nat} (h : r.1 = 0 → r.2.2 ≤ len) (h4 : r'.1 = 4) : R1 len r r' := fun c => ⟨h c, .inr h4⟩
theorem R1.onOk {len : Nat} {r r' : PR} {f f' : XT → Nat → PR} (h : R1 len r r') (k : ∀ x j, j ≤ len → R1 len (f x j) (f' x (j + 1))) : R1 len (onOk r f) (onOk r' f') := by
  obtain ⟨c, x, j⟩ := r
  by_cases q : c = 0
  · subst q
    obtain ⟨hj, h2⟩ := h rfl
    rcases h2 with rfl | h4
    · rw [onOk_yes]; simp only; rw [onOk_yes]
      exact k x j hj
    · intro c'
      rw [onOk_yes] at c' ⊢
      refine ⟨(k x j hj c').1, .inr ?_⟩
      unfold Go.Proofs.YthpjejfgoohhfaaGreatDoor.onOk
      rw [if_neg (by rw [h4]; decide)]
      exact h4
  · exact R1.bad (by unfold Go.Proofs.YthpjejfgoohhfaaGreatDoor.onOk; rw [if_neg q]; exact q)
theorem R1.onOkL {len : Nat} {r r' : PL} {f f' : List XT → Nat → PR} (h : R1 len r r') (k : ∀ x j, j ≤ len → R1 len (f x j) (f' x (j + 1))) : R1 len (onOkL r f) (onOkL r' f') := by
  obtain ⟨c, x, j⟩ := r
  unfold Go.Proofs.YthpjejfgoohhfaaGreatDoor.onOkL
  by_cases q : c = 0
  · subst q
    obtain ⟨hj, h2⟩ := h rfl
    rw [if_pos rfl]
    rcases h2 with rfl | h4
    · rw [if_pos rfl]
      exact k x j hj
    · rw [if_neg (by rw [h4]; decide)]
      exact fun c' => ⟨(k x j hj c').1, .inr h4⟩
  · rw [if_neg q]
    exact R1.bad q
theorem R1.onOkLL {len : Nat} {r r' : PR} {f f' : XT → Nat → PL} (h : R1 len r r') (k : ∀ x j, j ≤ len → R1 len (f x j) (f' x (j + 1))) : R1 len (onOkLL r f) (onOkLL r' f') := by
  obtain ⟨c, x, j⟩ := r
  unfold Go.Proofs.YthpjejfgoohhfaaGreatDoor.onOkLL
  by_cases q : c = 0
  · subst q
    obtain ⟨hj, h2⟩ := h rfl
    rw [if_pos rfl]
    rcases h2 with rfl | h4
    · rw [if_pos rfl]
      exact k x j hj
    · rw [if_neg (by rw [h4]; decide)]
      exact fun c' => ⟨(k x j hj c').1, .inr h4⟩
  · rw [if_neg q]
    exact R1.bad q

/-- a bracket that closes -/
def isShut (b : Tk) : Prop := b.k = 4 ∧ b.t = [41]
section
variable {l l' : List Tk} {vw : Tree → Int} {b : Tk}
/-- the longer list: one ahead, a bracket behind -/
structure Lon (l l' : List Tk) (b : Tk) : Prop where
  at' : ∀ i, i < l.length → l'[i + 1]? = l[i]?
  last : l'[l.length + 1]? = some b
  shut : isShut b
theorem Lon.sees (H : Lon l l' b) {i : Nat} (hi : i ≤ l.length) {s : List UInt8} (hs : s ≠ [41]) : seesT l' (i + 1) s = seesT l i s := by
  unfold seesT
  rcases Nat.lt_or_ge i l.length with q | q
  · rw [H.at' i q]
  · obtain rfl : i = l.length := by omega
    rw [H.last, List.getElem?_eq_none (Nat.le_refl _)]
    unfold isT
    simp only
    rw [H.shut.2]
    have : (([41] : List UInt8) == s) = false := by rw [beq_eq_false_iff_ne]; exact fun c => hs c.symm
    simp [this]
theorem Lon.sees_lt (H : Lon l l' b) {i : Nat} (hi : i < l.length) {s : List UInt8} : seesT l' (i + 1) s = seesT l i s := by
  unfold seesT
  rw [H.at' i hi]
theorem seesX_lt {l : List Tk} {i : Nat} {s : List UInt8} (h : seesT l i s = true) : i < l.length := by
  unfold seesT at h
  rcases Nat.lt_or_ge i l.length with q | q
  · exact q
  · rw [List.getElem?_eq_none q] at h; cases h
theorem Lon.joint (H : Lon l l' b) {i : Nat} (hi : i ≤ l.length) (lev : Int) : jointF l' (i + 1) lev = jointF l i lev := by
  unfold jointF
  rcases Nat.lt_or_ge i l.length with q | q
  · rw [H.at' i q]
  · obtain rfl : i = l.length := by omega
    rw [H.last, List.getElem?_eq_none (Nat.le_refl _)]
    simp only
    rw [H.shut.2]
    rfl
theorem jointX_lt {l : List Tk} {i : Nat} {lev k : Int} (h : jointF l i lev = some k) : i < l.length := by
  unfold jointF at h
  rcases Nat.lt_or_ge i l.length with q | q
  · exact q
  · rw [List.getElem?_eq_none q] at h; cases h
theorem Lon.nm (H : Lon l l' b) {i : Nat} (hi : i < l.length) : nmF l' (i + 1) = nmF l i := by
  unfold nmF
  rw [H.at' i hi]
theorem nmX_lt {l : List Tk} {i : Nat} (h : (nmF l i).1 = 0) : i < l.length := by
  unfold nmF at h
  rcases Nat.lt_or_ge i l.length with q | q
  · exact q
  · rw [List.getElem?_eq_none q] at h; simp at h

/-- nothing is read at the end -/
structure Fin0 (l : List Tk) (vw : Tree → Int) (n : Nat) : Prop where
  E : ∀ o, ((ps l vw n).E o l.length).1 ≠ 0
  C : ∀ o, ((ps l vw n).C o l.length).1 ≠ 0
  J : ∀ lev o, ((ps l vw n).J lev o l.length).1 ≠ 0
  S : ∀ o, ((ps l vw n).S o l.length).1 ≠ 0
  P : ∀ o, ((ps l vw n).P o l.length).1 ≠ 0
theorem sees_end (l : List Tk) (s : List UInt8) : seesT l l.length s = false := by
  unfold seesT
  rw [List.getElem?_eq_none (Nat.le_refl _)]
theorem onOk_bad {r : PR} {f : XT → Nat → PR} (h : r.1 ≠ 0) : (Go.Proofs.YthpjejfgoohhfaaGreatDoor.onOk r f).1 ≠ 0 := by rw [onOk_no h]; exact h
theorem fin0 (l : List Tk) (vw : Tree → Int) : ∀ n, Fin0 l vw n
  | 0 => ⟨fun _ => m1, fun _ => m1, fun _ _ => m1, fun _ => m1, fun _ => m1⟩
  | n + 1 => by
    have I := fin0 l vw n
    refine ⟨fun o => ?_, fun o => ?_, fun lev o => ?_, fun o => ?_, fun o => ?_⟩
    · rw [ps_E, eF]
      split
      · exact (show (4 : Int) ≠ 0 by decide)
      · exact I.C _
    · rw [ps_C, cF, sees_end, sees_end, sees_end, sees_end]
      simp only [Bool.false_eq_true, if_false]
      exact I.J _ _
    · rw [ps_J, jF]
      split
      · exact I.S _
      · exact onOk_bad (I.J _ _)
    · rw [ps_S, sF, sees_end]
      simp only [Bool.false_eq_true, if_false]
      exact I.P _
    · rw [ps_P, pF, List.getElem?_eq_none (Nat.le_refl _)]
      simp only [Option.bind_none, sees_end, Bool.false_eq_true, if_false]
      have hn : nmF l l.length = (2, []) := by unfold nmF; rw [List.getElem?_eq_none (Nat.le_refl _)]
      rw [hn]
      simp

/-- every reader -/
structure SB (l l' : List Tk) (vw : Tree → Int) (n : Nat) : Prop where
  E : ∀ m o i, n ≤ m → i ≤ l.length → R1 l.length ((ps l vw n).E o i) ((ps l' vw m).E (o + 1) (i + 1))
  C : ∀ m o i, n ≤ m → i ≤ l.length → R1 l.length ((ps l vw n).C o i) ((ps l' vw m).C (o + 1) (i + 1))
  J : ∀ m lev o i, n ≤ m → i ≤ l.length → R1 l.length ((ps l vw n).J lev o i) ((ps l' vw m).J lev (o + 1) (i + 1))
  K : ∀ m lev o x i, n ≤ m → i ≤ l.length → R1 l.length ((ps l vw n).K lev o x i) ((ps l' vw m).K lev (o + 1) x (i + 1))
  S : ∀ m o i, n ≤ m → i ≤ l.length → R1 l.length ((ps l vw n).S o i) ((ps l' vw m).S (o + 1) (i + 1))
  P : ∀ m o i, n ≤ m → i ≤ l.length → R1 l.length ((ps l vw n).P o i) ((ps l' vw m).P (o + 1) (i + 1))
  L : ∀ m c most o acc i, n ≤ m → i ≤ l.length → R1 l.length ((ps l vw n).L c most o acc i) ((ps l' vw m).L c most (o + 1) acc (i + 1))
  B : ∀ m ws o acc i, n ≤ m → i ≤ l.length → R1 l.length ((ps l vw n).B ws o acc i) ((ps l' vw m).B ws (o + 1) acc (i + 1))

theorem lp_far (H : Lon l l' b) {n m : Nat} (I : SB l l' vw n) (hm : n ≤ m) (k : Int) (w : List UInt8) (o i : Nat) : R1 l.length (lpF l (ps l vw n) k w o i) (lpF l' (ps l' vw m) k w (o + 1) (i + 1)) := by
  unfold lpF
  by_cases q : (nmF l i).1 = 0
  · have hi := nmX_lt q
    rw [H.nm hi, if_neg (fun c => c q), if_neg (fun c => c q)]
    exact (I.B m _ o [] (i + 1) hm hi).onOkL fun ks j hj => R1.ok hj
  · rw [if_pos q]
    exact R1.bad q

theorem far (H : Lon l l' b) (n : Nat) : SB l l' vw n := by
  induction n with
  | zero => exact ⟨fun _ _ _ _ _ => R1.bad m1, fun _ _ _ _ _ => R1.bad m1, fun _ _ _ _ _ _ => R1.bad m1, fun _ _ _ _ _ _ _ => R1.bad m1, fun _ _ _ _ _ => R1.bad m1, fun _ _ _ _ _ => R1.bad m1, fun _ _ _ _ _ _ _ _ => R1.bad m1, fun _ _ _ _ _ _ _ => R1.bad m1⟩
  | succ n I =>
    refine ⟨?_, ?_, ?_, ?_, ?_, ?_, ?_, ?_⟩
    · intro m o i hm hi
      obtain ⟨m, rfl⟩ : ∃ k, m = k + 1 := ⟨m - 1, by omega⟩
      rw [ps_E, ps_E, eF, eF]
      by_cases q : 200 < o + 1
      · rw [if_pos q]; exact R1.bad (show (4 : Int) ≠ 0 by decide)
      · rw [if_neg q]
        have r := I.C m (o + 1) i (by omega) hi
        by_cases q2 : 200 < o + 1 + 1
        · rw [if_pos q2]
          exact R1.much (fun c => (r c).1) rfl
        · rw [if_neg q2]
          exact r
    · intro m o i hm hi
      obtain ⟨m, rfl⟩ : ∃ k, m = k + 1 := ⟨m - 1, by omega⟩
      have hm' : n ≤ m := by omega
      rw [ps_C, ps_C, cF, cF, H.sees hi (by decide), H.sees hi (by decide), H.sees hi (by decide), H.sees hi (by decide)]
      split
      · exact (I.B m _ o [] i hm' hi).onOkL fun ks j hj => R1.ok hj
      · split
        · exact lp_far H I hm' _ _ _ _
        · split
          · exact lp_far H I hm' _ _ _ _
          · split
            · exact lp_far H I hm' _ _ _ _
            · exact I.J m 1 o i hm' hi
    · intro m lev o i hm hi
      obtain ⟨m, rfl⟩ : ∃ k, m = k + 1 := ⟨m - 1, by omega⟩
      have hm' : n ≤ m := by omega
      rw [ps_J, ps_J, jF, jF]
      split
      · exact I.S m o i hm' hi
      · exact (I.J m _ o i hm' hi).onOk fun x j hj => I.K m lev o x j hm' hj
    · intro m lev o x i hm hi
      obtain ⟨m, rfl⟩ : ∃ k, m = k + 1 := ⟨m - 1, by omega⟩
      have hm' : n ≤ m := by omega
      rw [ps_K, ps_K, kF, kF, H.joint hi]
      cases q : jointF l i lev with
      | none => exact R1.ok hi
      | some k =>
        have hl := jointX_lt q
        refine (I.J m _ o (i + 1) hm' hl).onOk fun y j hj => ?_
        split
        · exact R1.ok hj
        · exact I.K m lev o _ j hm' hj
    · intro m o i hm hi
      obtain ⟨m, rfl⟩ : ∃ k, m = k + 1 := ⟨m - 1, by omega⟩
      have hm' : n ≤ m := by omega
      rw [ps_S, ps_S, sF, sF, H.sees hi (by decide)]
      split
      · rename_i q
        have hl := seesX_lt q
        by_cases q1 : 200 < o + 1
        · rw [if_pos q1]; exact R1.bad (show (4 : Int) ≠ 0 by decide)
        · rw [if_neg q1]
          have r : R1 l.length (Go.Proofs.YthpjejfgoohhfaaGreatDoor.onOk ((ps l vw n).S (o + 1) (i + 1)) fun x j => (0, xN 3 [x], j)) (Go.Proofs.YthpjejfgoohhfaaGreatDoor.onOk ((ps l' vw m).S (o + 1 + 1) (i + 1 + 1)) fun x j => (0, xN 3 [x], j)) := (I.S m (o + 1) (i + 1) hm' hl).onOk fun x j hj => R1.ok hj
          by_cases q2 : 200 < o + 1 + 1
          · rw [if_pos q2]
            exact R1.much (fun c => (r c).1) rfl
          · rw [if_neg q2]
            exact r
      · exact I.P m o i hm' hi
    · intro m o i hm hi
      obtain ⟨m, rfl⟩ : ∃ k, m = k + 1 := ⟨m - 1, by omega⟩
      have hm' : n ≤ m := by omega
      rcases Nat.lt_or_ge i l.length with hl | hl
      · rw [ps_P, ps_P, pF, pF, H.at' i hl, H.sees_lt hl, H.sees_lt hl, H.nm hl]
        cases (l[i]?).bind meantF with
        | some v =>
          simp only
          split
          · rename_i q; exact R1.bad q
          · exact R1.ok hl
        | none =>
          simp only
          split
          · refine (I.E m o (i + 1) hm' hl).onOk fun x j hj => ?_
            by_cases q : seesT l j [41] = true
            · have hj2 := seesX_lt q
              rw [H.sees_lt hj2, if_pos q, if_pos q]
              exact R1.ok hj2
            · rw [if_neg q]
              exact R1.bad (by simp)
          · split
            · exact (I.L m _ _ o [] (i + 1) hm' hl).onOkL fun ks j hj => R1.ok hj
            · split
              · rename_i q; exact R1.bad q
              · rw [H.sees (i := i + 1) hl (by decide)]
                split
                · rename_i q
                  exact (I.L m _ _ o [] (i + 2) hm' (seesX_lt q)).onOkL fun ks j hj => R1.ok hj
                · exact R1.ok hl
      · obtain rfl : i = l.length := by omega
        exact R1.bad ((fin0 l vw (n + 1)).P o)
    · intro m c most o acc i hm hi
      obtain ⟨m, rfl⟩ : ∃ k, m = k + 1 := ⟨m - 1, by omega⟩
      have hm' : n ≤ m := by omega
      rcases Nat.lt_or_ge i l.length with hl | hl
      · rw [ps_L, ps_L, lF, lF, H.sees_lt hl, H.sees_lt hl]
        split
        · exact R1.ok hl
        · split
          · exact R1.bad (by simp)
          · split
            · exact R1.bad (by simp)
            · by_cases qa : acc = []
              · rw [if_pos qa, if_pos qa]
                exact (I.E m o i hm' hi).onOkLL fun x j hj => I.L m c most o _ j hm' hj
              · rw [if_neg qa, if_neg qa]
                exact (I.E m o (i + 1) hm' hl).onOkLL fun x j hj => I.L m c most o _ j hm' hj
      · obtain rfl : i = l.length := by omega
        refine R1.bad ?_
        rw [ps_L, lF, sees_end, sees_end]
        simp only [Bool.false_eq_true, if_false, and_true]
        split
        · simp
        · rename_i qa
          split
          · simp
          · have qa' : acc = [] := by simpa using qa
            rw [if_pos qa']
            unfold Go.Proofs.YthpjejfgoohhfaaGreatDoor.onOkLL
            rw [if_neg ((fin0 l vw n).E o)]
            exact (fin0 l vw n).E o
    · intro m ws o acc i hm hi
      obtain ⟨m, rfl⟩ : ∃ k, m = k + 1 := ⟨m - 1, by omega⟩
      have hm' : n ≤ m := by omega
      rw [ps_B, ps_B]
      cases ws with
      | nil => rw [bF, bF]; exact R1.ok hi
      | cons s ss =>
        rw [bF, bF]
        by_cases q : seesT l i s = false
        · rw [if_pos q]; exact R1.bad (by simp)
        · have q' : seesT l i s = true := by simpa using q
          have hl := seesX_lt q'
          rw [H.sees_lt hl, if_neg q, if_neg q]
          exact (I.E m o (i + 1) hm' hl).onOkLL fun x j hj => I.B m ss o _ j hm' hj
end
end Go.Proofs.YthpjejfgoohhfaaGreatDoor
