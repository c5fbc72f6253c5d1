/- Plain facts: tokens cover a text but for its blanks. -/
import Derived.Test.YthpjejfgoohhfaaGreatDoorG20
namespace Go.Proofs.YthpjejfgoohhfaaGreatDoor

theorem val_step {l : List UInt8} (h : Lib.validD l = true) (hne : l ≠ []) : ¬ ((Lib.decodeL l).1 = 65533 ∧ (Lib.decodeL l).2 = 1) ∧ Lib.validD (l.drop (Lib.decodeL l).2) = true := by
  rw [Lib.validD_step l hne] at h
  split at h
  · cases h
  · rename_i hc; exact ⟨hc, h⟩
theorem dec_ascii {b : UInt8} {t : List UInt8} (h : b.toNat < 128) : Lib.decodeL (b :: t) = (b.toNat, 1) := Lib.decodeL_ascii b t h
theorem val_one {b : UInt8} {t : List UInt8} (h : Lib.validD (b :: t) = true) (hb : b.toNat < 128) : Lib.validD t = true := by
  have := (val_step h (by simp)).2
  rw [dec_ascii hb] at this
  simpa using this
theorem val_run : ∀ (k : Nat) (l : List UInt8), Lib.validD l = true → (∀ b ∈ l.take k, b.toNat < 128) → Lib.validD (l.drop k) = true
  | 0, l, h, _ => by simpa using h
  | k + 1, [], h, _ => by simpa using h
  | k + 1, b :: t, h, ha => by
    have hb := ha b (by simp)
    simpa using val_run k t (val_one h hb) (fun x hx => ha x (by simp [hx]))
theorem val_lead (G : Nat → Nat → Bool) : ∀ (f pos : Nat) (l : List UInt8), Lib.validD l = true → pos ≤ leadL G f pos l ∧ Lib.validD (l.drop (leadL G f pos l - pos)) = true
  | 0, pos, l, h => by simp [leadL, h]
  | f + 1, pos, l, h => by
    by_cases hne : l = []
    · subst hne; rw [leadL_nil]; simp [h]
    · cases g : G pos (Lib.decodeL l).1
      · rw [leadL_stop hne g]; simp [h]
      · rw [leadL_go hne g]
        obtain ⟨a, b⟩ := val_lead G f (pos + (Lib.decodeL l).2) _ (val_step h hne).2
        refine ⟨by omega, ?_⟩
        rw [List.drop_drop] at b
        rw [show leadL G f (pos + (Lib.decodeL l).2) (l.drop (Lib.decodeL l).2) - pos = (Lib.decodeL l).2 + (leadL G f (pos + (Lib.decodeL l).2) (l.drop (Lib.decodeL l).2) - (pos + (Lib.decodeL l).2)) by omega]
        exact b
theorem dec_fffd {l : List UInt8} (h : Lib.hasPrefix l [239, 191, 189] = true) : Lib.decodeL l = (65533, 3) := by
  unfold Lib.hasPrefix at h
  obtain ⟨t, rfl⟩ := List.isPrefixOf_iff_prefix.1 h
  rw [Lib.decodeL_N]
  simp [Lib.decodeN]
theorem utf_valid (L : List UInt8) : ∀ (f pos : Nat), L.length ≤ pos + f → pos ≤ L.length → leadL (gUtf L) f pos (L.drop pos) = L.length → Lib.validD (L.drop pos) = true
  | 0, pos, hf, hp, _ => by
    rw [List.drop_of_length_le (by omega)]; rfl
  | f + 1, pos, hf, hp, h => by
    by_cases hne : L.drop pos = []
    · rw [hne]; rfl
    · have hlt : pos < L.length := by
        rcases Nat.lt_or_ge pos L.length with q | q
        · exact q
        · exact absurd (List.drop_of_length_le q) hne
      cases g : gUtf L pos (Lib.decodeL (L.drop pos)).1
      · rw [leadL_stop hne g] at h; omega
      · rw [leadL_go hne g, List.drop_drop] at h
        have hw := Lib.decodeL_width (L.drop pos)
        have hl := Lib.decodeL_le (L.drop pos) hne
        rw [List.length_drop] at hl
        have ih := utf_valid L f (pos + (Lib.decodeL (L.drop pos)).2) (by omega) (by omega) h
        rw [Lib.validD_step _ hne, if_neg, List.drop_drop]
        · exact ih
        · rintro ⟨a, b⟩
          unfold gUtf at g
          rw [a] at g
          simp at g
          have := dec_fffd g
          rw [this] at b
          simp at b

/-- digits, as they follow -/
theorem lead_dig : ∀ (f pos : Nat) (l : List UInt8), l.length ≤ f → leadL gDig f pos l = pos + (l.takeWhile isDg).length
  | 0, pos, l, h => by
    have : l = [] := List.eq_nil_of_length_eq_zero (by omega)
    subst this; simp [leadL]
  | f + 1, pos, [], h => by rw [leadL_nil]; simp
  | f + 1, pos, b :: t, h => by
    by_cases hb : b.toNat < 128
    · have hd := dec_ascii (t := t) hb
      have e : gDig pos (Lib.decodeL (b :: t)).1 = isDg b := by
        rw [hd]; unfold gDig isDgR isDg
        rw [Bool.eq_iff_iff]; simp; omega
      cases g : isDg b
      · rw [leadL_stop (by simp) (by rw [e, g])]; simp [g]
      · rw [leadL_go (by simp) (by rw [e, g]), hd]
        simp only [List.drop_succ_cons, List.drop_zero]
        rw [lead_dig f (pos + 1) t (by simpa using h)]
        simp [g]; omega
    · have hd : 128 ≤ (Lib.decodeL (b :: t)).1 := by
        have := decode_high ⟨(b :: t).toArray⟩ 0 (by simp [ByteArray.size]) (by show 128 ≤ b.toNat; omega)
        exact this.1
      have e : gDig pos (Lib.decodeL (b :: t)).1 = false := by
        unfold gDig isDgR; simp; omega
      have g : isDg b = false := by unfold isDg; simp; omega
      rw [leadL_stop (by simp) e]; simp [g]
theorem takeWhile_take (p : UInt8 → Bool) : ∀ l : List UInt8, l.take (l.takeWhile p).length = l.takeWhile p
  | [] => rfl
  | b :: t => by
    rw [List.takeWhile_cons]
    split
    · simp [takeWhile_take p t]
    · simp
theorem dig_low {l : List UInt8} : ∀ b ∈ l.takeWhile isDg, b.toNat < 128 := by
  intro b hb
  have := isDg_bd ((List.all_eq_true.1 (List.all_takeWhile (p := isDg) (l := l))) b hb)
  omega

def qb (b : UInt8) : List UInt8 := if b = 34 ∨ b = 92 then [92, b] else if b = 10 then [92, 110] else [b]
def quoteL (l : List UInt8) : List UInt8 := 34 :: (l.flatMap qb ++ [34])
def ql (l : List UInt8) : Nat := (l.flatMap qb).length
theorem ql_app (a b : List UInt8) : ql (a ++ b) = ql a + ql b := by simp [ql]
theorem quote_len (l : List UInt8) : (quoteL l).length = ql l + 2 := by simp [quoteL, ql]
theorem ql_hi : ∀ (l : List UInt8), (∀ b ∈ l, 128 ≤ b.toNat) → ql l = l.length
  | [], _ => rfl
  | b :: t, h => by
    have hb := h b (by simp)
    have e : qb b = [b] := by
      have n : ∀ k : UInt8, k.toNat < 128 → b ≠ k := fun k hk q => by rw [q] at hb; omega
      unfold qb; rw [if_neg (by rintro (q | q); · exact n 34 (by decide) q
                                · exact n 92 (by decide) q), if_neg (n 10 (by decide))]
    have ih := ql_hi t (fun x hx => h x (by simp [hx]))
    unfold ql at ih ⊢
    rw [List.flatMap_cons, List.length_append, ih, e]; simp; omega
theorem enc_hi {r : Nat} (h0 : 128 ≤ r) (h1 : r ≤ 1114111) : ∀ b ∈ Lib.encodeRune (r : Int), 128 ≤ b.toNat := by
  intro b hb
  unfold Lib.encodeRune at hb
  obtain ⟨z, hz, rfl⟩ := List.mem_map.1 hb
  unfold Lib.encodeRuneZ at hz
  have key : ∀ y : Int, 128 ≤ y → y < 256 → 128 ≤ (y.toNat.toUInt8).toNat := by
    intro y a b
    rw [show y.toNat.toUInt8 = UInt8.ofNat y.toNat from rfl, UInt8.toNat_ofNat']
    omega
  (repeat' split at hz) <;> simp at hz <;> (first | omega | (rcases hz with rfl | rfl | rfl | rfl <;> exact key _ (by omega) (by omega)) | (rcases hz with rfl | rfl | rfl <;> exact key _ (by omega) (by omega)) | (rcases hz with rfl | rfl <;> exact key _ (by omega) (by omega)))

theorem dec_head {l : List UInt8} (hne : l ≠ []) (h : (Lib.decodeL l).1 < 128) : Lib.decodeL l = ((l.getD 0 0).toNat, 1) ∧ (l.getD 0 0).toNat < 128 := by
  cases l with
  | nil => exact absurd rfl hne
  | cons b t =>
    by_cases hb : b.toNat < 128
    · exact ⟨dec_ascii hb, hb⟩
    · have := (decode_high ⟨(b :: t).toArray⟩ 0 (by simp [ByteArray.size]) (by show 128 ≤ b.toNat; omega)).1
      have e : Lib.decodeL (b :: t) = Utf8.decode ⟨(b :: t).toArray⟩ 0 := rfl
      rw [e] at h
      omega
theorem take_one {l : List UInt8} (hne : l ≠ []) : l.take 1 = [l.getD 0 0] := by
  cases l with
  | nil => exact absurd rfl hne
  | cons b t => rfl
theorem u8_of {b : UInt8} {n : Nat} (h : b.toNat = n) (hn : n < 256) : b = UInt8.ofNat n := (u8_eq b n hn).2 h
theorem ql_single {b : UInt8} (h1 : b.toNat ≠ 34) (h2 : b.toNat ≠ 92) (h3 : b.toNat ≠ 10) : ql [b] = 1 := by
  have e : qb b = [b] := by
    unfold qb
    rw [if_neg (by rintro (q | q); · exact h1 (by rw [q]; rfl)
                   · exact h2 (by rw [q]; rfl)), if_neg (fun q => h3 (by rw [q]; rfl))]
  simp [ql, e]
/-- a rune that is written as it is -/
theorem ql_plain {l : List UInt8} (hne : l ≠ []) (hv : ¬ ((Lib.decodeL l).1 = 65533 ∧ (Lib.decodeL l).2 = 1)) (h1 : (Lib.decodeL l).1 ≠ 34) (h2 : (Lib.decodeL l).1 ≠ 92) (h3 : (Lib.decodeL l).1 ≠ 10) : ql (Lib.encodeRune ((Lib.decodeL l).1 : Int)) = (Lib.decodeL l).2 := by
  have e := Lib.encode_decode l hne hv
  have hle := Lib.decodeL_le l hne
  by_cases hr : (Lib.decodeL l).1 < 128
  · obtain ⟨a, b⟩ := dec_head hne hr
    rw [e, a]
    rw [a] at h1 h2 h3
    show ql (l.take 1) = 1
    rw [take_one hne]
    exact ql_single h1 h2 h3
  · rw [ql_hi _ (enc_hi (by omega) (Lib.decodeL_rune l)), e, List.length_take]
    omega
theorem tMean_ql {r : Nat} (h : tOk r = true) : ql (Lib.encodeRune (tMean r : Int)) = 2 := by
  unfold tOk at h
  simp at h
  rcases h with (rfl | rfl) | rfl <;> decide +kernel

/-- a text that ends with a quote is as long as what it says, quoted -/
theorem text_len : ∀ (f : Nat) (esc : Bool) (acc : List UInt8) (pos : Nat) (l : List UInt8), l.length ≤ f → Lib.validD l = true →
    pos ≤ (textL f esc acc pos l).1 ∧ Lib.validD (l.drop ((textL f esc acc pos l).1 - pos)) = true ∧
    ((textL f esc acc pos l).1 < pos + l.length → l.getD ((textL f esc acc pos l).1 - pos) 0 = 34 → ql (textL f esc acc pos l).2 = ql acc + ((textL f esc acc pos l).1 - pos) + (if esc = true then 1 else 0))
  | 0, esc, acc, pos, l, h, hv => by
    have : l = [] := List.eq_nil_of_length_eq_zero (by omega)
    subst this
    simp [textL, hv]
  | f + 1, esc, acc, pos, l, h, hv => by
    by_cases hne : l = []
    · subst hne; rw [textL_nil]; simp [hv]
    · have hw := Lib.decodeL_width l
      have hle := Lib.decodeL_le l hne
      obtain ⟨v1, v2⟩ := val_step hv hne
      cases g : tGo esc (Lib.decodeL l).1
      · rw [textL_stop hne g]
        refine ⟨Nat.le_refl _, by simpa using hv, fun _ h34 => ?_⟩
        simp only [Nat.sub_self] at h34
        have hd : Lib.decodeL l = (34, 1) := by
          cases l with
          | nil => exact absurd rfl hne
          | cons b t =>
            have hb : b = 34 := h34
            rw [hb]; exact dec_ascii (by decide)
        rw [hd] at g ⊢
        cases esc
        · simp [tAdd]
        · simp [tGo, tOk] at g
      · rw [textL_go hne g]
        have ih := text_len f (tEsc esc (Lib.decodeL l).1) (acc ++ tAdd esc (Lib.decodeL l).1) (pos + (Lib.decodeL l).2) (l.drop (Lib.decodeL l).2) (by rw [List.length_drop]; omega) v2
        generalize hq : textL f (tEsc esc (Lib.decodeL l).1) (acc ++ tAdd esc (Lib.decodeL l).1) (pos + (Lib.decodeL l).2) (l.drop (Lib.decodeL l).2) = q at ih ⊢
        obtain ⟨i1, i2, i3⟩ := ih
        rw [List.drop_drop, show (Lib.decodeL l).2 + (q.1 - (pos + (Lib.decodeL l).2)) = q.1 - pos by omega] at i2
        refine ⟨by omega, i2, fun hlt h34 => ?_⟩
        have i4 := i3 (by rw [List.length_drop]; omega) (by
          rw [List.getD_eq_getElem?_getD, List.getElem?_drop, show (Lib.decodeL l).2 + (q.1 - (pos + (Lib.decodeL l).2)) = q.1 - pos by omega, ← List.getD_eq_getElem?_getD]
          exact h34)
        rw [i4, ql_app]
        cases esc
        · by_cases h92 : (Lib.decodeL l).1 = 92
          · have hd := (dec_head hne (by omega)).1
            have hw1 : (Lib.decodeL l).2 = 1 := by rw [hd]
            rw [h92]
            simp [tAdd, tEsc, ql]
            omega
          · have hn : ¬ ((Lib.decodeL l).1 = 34 ∨ (Lib.decodeL l).1 = 10) := by
              intro q
              unfold tGo at g
              simp at g
              omega
            have e1 : tAdd false (Lib.decodeL l).1 = Lib.encodeRune ((Lib.decodeL l).1 : Int) := by unfold tAdd; rw [if_neg (by decide), if_neg (by omega)]
            have e2 : tEsc false (Lib.decodeL l).1 = false := by simp [tEsc, h92]
            rw [e1, e2, ql_plain hne v1 (by omega) (by omega) (by omega)]
            simp
            omega
        · have ho : tOk (Lib.decodeL l).1 = true := by simpa [tGo] using g
          have hlow : (Lib.decodeL l).1 < 128 := by
            unfold tOk at ho; simp at ho; omega
          have hw1 : (Lib.decodeL l).2 = 1 := by rw [(dec_head hne hlow).1]
          have e1 : tAdd true (Lib.decodeL l).1 = Lib.encodeRune (tMean (Lib.decodeL l).1 : Int) := rfl
          have e2 : tEsc true (Lib.decodeL l).1 = false := rfl
          rw [e1, e2, tMean_ql ho]
          simp
          omega

/-- how many bytes a token takes, by what it says -/
def wl (k : Int) (t : List UInt8) : Nat := if k = 3 then (quoteL t).length else t.length

theorem sign_wl : ∀ (gs : List (List UInt8)) (l : List UInt8), (∀ g ∈ gs, ∀ b ∈ g, b.toNat < 128) → (signF gs l).e = 0 → wl (signF gs l).k (signF gs l).t = (signF gs l).n ∧ (∀ b ∈ l.take (signF gs l).n, b.toNat < 128)
  | [], l, _, h => by simp [signF] at h
  | g :: gs, l, hg, h => by
    cases hp : Lib.hasPrefix l g
    · rw [signF_no hp] at h ⊢; exact sign_wl gs l (fun x hx => hg x (List.mem_cons_of_mem _ hx)) h
    · rw [signF_yes hp]
      have : g <+: l := by unfold Lib.hasPrefix at hp; exact List.isPrefixOf_iff_prefix.1 hp
      obtain ⟨t, rfl⟩ := this
      refine ⟨by simp [wl], fun b hb => ?_⟩
      rw [List.take_left'] at hb
      · exact hg g (List.mem_cons_self ..) b hb
      · rfl

theorem first_wl {l : List UInt8} (hne : l ≠ []) (hv : Lib.validD l = true) (he : (firstF l).e = 0) : wl (firstF l).k (firstF l).t = (firstF l).n ∧ Lib.validD (l.drop (firstF l).n) = true := by
  have hl : 1 ≤ l.length := by cases l with
    | nil => exact absurd rfl hne
    | cons => simp
  unfold firstF at he ⊢
  split at he
  · rename_i h34
    rw [if_pos h34]
    have hq := ftF_eq (l := l) (p := (textL (l.length - 1) false [] 0 (l.drop 1)).1) (said := (textL (l.length - 1) false [] 0 (l.drop 1)).2) rfl
    have ht := textL_le (l.length - 1) false [] 0 (l.drop 1)
    rw [List.length_drop] at ht
    have hv1 : Lib.validD (l.drop 1) = true := by
      refine val_run 1 l hv (fun b hb => ?_)
      rw [take_one hne, h34] at hb
      simp at hb; rw [hb]; decide
    obtain ⟨a1, a2, a3⟩ := text_len (l.length - 1) false [] 0 (l.drop 1) (by rw [List.length_drop]; omega) hv1
    rw [hq] at he ⊢
    split at he
    · exact absurd he (by decide : ¬ (2 : Int) = 0)
    · rename_i hc
      rw [if_neg hc]
      have hc1 : ¬ 1 + (textL (l.length - 1) false [] 0 (l.drop 1)).1 = l.length := fun q => hc (.inl q)
      have hc2 : l.getD (1 + (textL (l.length - 1) false [] 0 (l.drop 1)).1) 0 = 34 := by
        rcases Classical.em (l.getD (1 + (textL (l.length - 1) false [] 0 (l.drop 1)).1) 0 = 34) with q | q
        · exact q
        · exact absurd (.inr q) hc
      simp only [Nat.sub_zero, Nat.zero_add] at a2 a3
      have hg : (l.drop 1).getD (textL (l.length - 1) false [] 0 (l.drop 1)).1 0 = 34 := by
        rw [List.getD_eq_getElem?_getD, List.getElem?_drop, ← List.getD_eq_getElem?_getD]; exact hc2
      have hql := a3 (by rw [List.length_drop]; omega) hg
      refine ⟨?_, ?_⟩
      · show (if (3 : Int) = 3 then _ else _) = _
        rw [if_pos rfl, quote_len, hql]
        simp [ql]
        omega
      · show Lib.validD (l.drop (1 + _ + 1)) = true
        rw [List.drop_drop] at a2
        have := val_run 1 _ a2 (fun b hb => ?_)
        · rw [List.drop_drop] at this; exact this
        · rw [take_one (by intro q; have := congrArg List.length q; rw [List.length_drop, List.length_nil] at this; omega)] at hb
          rw [List.getD_eq_getElem?_getD, List.getElem?_drop, Nat.add_zero, ← List.getD_eq_getElem?_getD, hc2] at hb
          simp at hb; rw [hb]; decide
  · rename_i h34
    rw [if_neg h34]
    split at he
    · rename_i hd
      rw [if_pos hd]
      have hle := leadL_le gDig l.length 0 l
      have hne2 := numEnd_le l (leadL gDig l.length 0 l) (by omega)
      have hdig := lead_dig l.length 0 l (Nat.le_refl _)
      rw [Nat.zero_add] at hdig
      have asc : ∀ b ∈ l.take (numEnd l (leadL gDig l.length 0 l)), b.toNat < 128 := by
        have h1 : ∀ b ∈ l.take (leadL gDig l.length 0 l), b.toNat < 128 := by
          rw [hdig, takeWhile_take]; exact dig_low
        unfold numEnd
        split
        · rename_i hp
          have hpre : [46] <+: l.drop (leadL gDig l.length 0 l) := by have := hp.1; unfold Lib.hasPrefix at this; exact List.isPrefixOf_iff_prefix.1 this
          obtain ⟨u, hu⟩ := hpre
          have ht : Lib.trimPrefix (l.drop (leadL gDig l.length 0 l)) [46] = u := by
            unfold Lib.trimPrefix; rw [if_pos hp.1, ← hu]; rfl
          have hd2 := lead_dig u.length 0 u (Nat.le_refl _)
          rw [Nat.zero_add] at hd2
          rw [ht, List.take_add, ← hu, hd2]
          intro b hb
          rcases List.mem_append.1 hb with q | q
          · exact h1 b q
          · rw [Nat.add_comm 1, List.singleton_append, List.take_succ_cons, takeWhile_take] at q
            rcases List.mem_cons.1 q with r | r
            · rw [r]; decide
            · exact dig_low b r
        · exact h1
      unfold fnF at he ⊢
      split at he
      · rename_i hp
        rw [if_pos hp]
        refine ⟨?_, val_run _ l hv asc⟩
        show (if (2 : Int) = 3 then _ else _) = _
        rw [if_neg (by decide), List.length_take]
        exact Nat.min_eq_left hne2
      · rename_i hp; exact absurd he hp
    · rename_i hd
      rw [if_neg hd]
      split at he
      · rename_i hw
        rw [if_pos hw]
        have hle := leadL_le gWord l.length 0 l
        have := (val_lead gWord l.length 0 l hv).2
        refine ⟨?_, by simpa using this⟩
        show (if (1 : Int) = 3 then _ else _) = _
        rw [if_neg (by decide), List.length_take]
        exact Nat.min_eq_left (by omega)
      · rename_i hw
        rw [if_neg hw]
        obtain ⟨a, b⟩ := sign_wl signsL l (by decide) he
        exact ⟨a, val_run _ l hv b⟩

/-- the tokens stand in order, and between them are blanks alone -/
def Cov (l : List UInt8) : Nat → List Tk → Prop
  | e, [] => ∀ i, e ≤ i → i < l.length → isBl (l.getD i 0).toNat = true
  | e, t :: ts => e ≤ t.a ∧ 1 ≤ wl t.k t.t ∧ t.a + wl t.k t.t ≤ l.length ∧ (∀ i, e ≤ i → i < t.a → isBl (l.getD i 0).toNat = true) ∧ Cov l (t.a + wl t.k t.t) ts

theorem toks_cov (L : List UInt8) : ∀ (f at' e : Nat) (acc : List Tk), L.length ≤ at' + f → at' ≤ L.length → e ≤ at' → (∀ i, e ≤ i → i < at' → isBl (L.getD i 0).toNat = true) → Lib.validD (L.drop at') = true → (toksL f at' (L.drop at') acc).2.1 = 0 → ∃ new, (toksL f at' (L.drop at') acc).1 = acc ++ new ∧ Cov L e new
  | 0, at', e, acc, hf, ha, he, hb, hv, h => by
    refine ⟨[], by simp [toksL], fun i h1 h2 => hb i h1 (by omega)⟩
  | f + 1, at', e, acc, hf, ha, he, hb, hv, h => by
    by_cases hne : L.drop at' = []
    · rw [hne, toksL_nil]
      have : L.length ≤ at' := by
        rcases Nat.lt_or_ge at' L.length with q | q
        · have := congrArg List.length hne; rw [List.length_drop] at this; simp at this; omega
        · exact q
      exact ⟨[], by simp, fun i h1 h2 => hb i h1 (by omega)⟩
    · have hlt : at' < L.length := by
        rcases Nat.lt_or_ge at' L.length with q | q
        · exact q
        · exact absurd (List.drop_of_length_le q) hne
      have hg0 : (L.drop at').getD 0 0 = L.getD at' 0 := by
        rw [List.getD_eq_getElem?_getD, List.getElem?_drop, Nat.add_zero, ← List.getD_eq_getElem?_getD]
      cases hbl : isBl ((L.drop at').getD 0 0).toNat
      · by_cases h0 : (firstF (L.drop at')).e = 0
        · rw [toksL_go hne hbl h0, List.drop_drop] at h ⊢
          obtain ⟨w1, w2⟩ := first_wl hne hv h0
          obtain ⟨b1, b2⟩ := (first_bd _ hne).1 h0
          rw [List.length_drop] at b2
          rw [List.drop_drop] at w2
          obtain ⟨new, n1, n2⟩ := toks_cov L f (at' + (firstF (L.drop at')).n) (at' + (firstF (L.drop at')).n) (acc ++ [⟨(firstF (L.drop at')).k, (firstF (L.drop at')).t, (firstF (L.drop at')).c, (firstF (L.drop at')).x, at'⟩]) (by omega) (by omega) (Nat.le_refl _) (fun i a b => absurd b (by omega)) w2 h
          refine ⟨⟨(firstF (L.drop at')).k, (firstF (L.drop at')).t, (firstF (L.drop at')).c, (firstF (L.drop at')).x, at'⟩ :: new, by rw [n1]; simp, ?_⟩
          refine ⟨he, by show 1 ≤ wl _ _; rw [w1]; exact b1, by show at' + wl _ _ ≤ _; rw [w1]; omega, hb, ?_⟩
          show Cov L (at' + wl _ _) new
          rw [w1]
          exact n2
        · rw [toksL_no hne hbl h0] at h; exact absurd h h0
      · rw [toksL_bl hne hbl, List.drop_drop] at h ⊢
        refine toks_cov L f (at' + 1) e acc (by omega) (by omega) (by omega) (fun i h1 h2 => ?_) ?_ h
        · by_cases q : i = at'
          · rw [q, ← hg0]; exact hbl
          · exact hb i h1 (by omega)
        · have := val_run 1 _ hv (fun b hb' => ?_)
          · rw [List.drop_drop] at this; exact this
          · rw [take_one hne] at hb'
            simp at hb'
            rw [hb']
            unfold isBl at hbl
            simp at hbl
            omega
theorem toks_at (L : List UInt8) : ∀ (f at' : Nat) (acc : List Tk), at' ≤ L.length → ¬ (toksL f at' (L.drop at') acc).2.1 = 0 → (toksL f at' (L.drop at') acc).1 = [] ∧ (toksL f at' (L.drop at') acc).2.2 ≤ L.length
  | 0, at', acc, ha, h => by simp [toksL] at h
  | f + 1, at', acc, ha, h => by
    by_cases hne : L.drop at' = []
    · rw [hne, toksL_nil] at h; simp at h
    · cases hbl : isBl ((L.drop at').getD 0 0).toNat
      · by_cases h0 : (firstF (L.drop at')).e = 0
        · rw [toksL_go hne hbl h0, List.drop_drop] at h ⊢
          obtain ⟨b1, b2⟩ := (first_bd _ hne).1 h0
          rw [List.length_drop] at b2
          exact toks_at L f _ _ (by omega) h
        · rw [toksL_no hne hbl h0]
          have := (first_bd _ hne).2
          rw [List.length_drop] at this
          exact ⟨rfl, by show at' + _ ≤ _; omega⟩
      · have hlt : at' < L.length := by
          rcases Nat.lt_or_ge at' L.length with q | q
          · exact q
          · exact absurd (List.drop_of_length_le q) hne
        rw [toksL_bl hne hbl, List.drop_drop] at h ⊢
        exact toks_at L f _ _ (by omega) h
end Go.Proofs.YthpjejfgoohhfaaGreatDoor
