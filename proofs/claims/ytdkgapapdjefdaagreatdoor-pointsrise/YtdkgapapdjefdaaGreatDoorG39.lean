/- Plain words: tests cannot tell a value from the point that it is like. -/
import Derived.Test.YtdkgapapdjefdaaGreatDoorG38
import Derived.Lib.ValidLaws
import Derived.Lib.MapLaws
namespace Go.Proofs.YtdkgapapdjefdaaGreatDoor
open Go.RowKit Go.Sort

/-- edges below stand ahead -/
theorem nb_iff : ∀ {es : List (Int × Int)} (d : Int × Int), es.Pairwise (fun x y => vR x < vR y) → ∀ (i : Nat) (e : Int × Int), es[i]? = some e → (vR e < vR d ↔ i < nbN es d)
  | [], d, _, i, e, h => by simp at h
  | a :: es, d, hp, i, e, h => by
    obtain ⟨h1, h2⟩ := List.pairwise_cons.1 hp
    have ih := nb_iff d h2
    by_cases ha : vR a < vR d
    · have hc : nbN (a :: es) d = nbN es d + 1 := by unfold nbN; rw [List.countP_cons, if_pos (by simpa using ha)]
      cases i with
      | zero =>
        simp at h
        subst h
        rw [hc]
        constructor
        · intro _; omega
        · intro _; exact ha
      | succ j =>
        rw [hc, ih j e (by simpa using h)]
        omega
    · have hc : nbN (a :: es) d = 0 := by
        unfold nbN
        rw [List.countP_eq_zero]
        intro x hx
        simp only [decide_eq_true_eq]
        rcases List.mem_cons.1 hx with rfl | hx
        · exact ha
        · have := h1 x hx
          omega
      rw [hc]
      constructor
      · intro q
        cases i with
        | zero =>
          simp at h
          subst h
          exact absurd q ha
        | succ j =>
          have := h1 e (List.mem_of_getElem? (show es[j]? = some e by simpa using h))
          omega
      · intro q; omega

/-- no edge tells a number from the point that it is like -/
theorem num_stand {es l : List (Int × Int)} {d : Int × Int} (hP : IsPts es l) (hes : es.Pairwise (fun x y => vR x < vR y)) (hko : ∀ e ∈ es, Dm.wrongN e.1 e.2 = 0) (hkd : Dm.wrongN d.1 d.2 = 0) :
    ∃ q, l[likeN es d]? = some q ∧ ∀ e ∈ es, (vR e < vR d ↔ vR e < vR q) ∧ (vR d < vR e ↔ vR q < vR e) ∧ (e = d ↔ e = q) := by
  have hb : nbN es d ≤ es.length := List.countP_le_length
  have iff := nb_iff d hes
  have hll := hP.len
  have done : ∀ q : Int × Int, Dm.wrongN q.1 q.2 = 0 → (∀ e ∈ es, (vR e < vR d ↔ vR e < vR q) ∧ (vR d < vR e ↔ vR q < vR e)) → ∀ e ∈ es, (vR e < vR d ↔ vR e < vR q) ∧ (vR d < vR e ↔ vR q < vR e) ∧ (e = d ↔ e = q) := by
    intro q hq h e he
    obtain ⟨a1, a2⟩ := h e he
    refine ⟨a1, a2, ?_⟩
    have k := hko e he
    constructor
    · rintro rfl
      have : vR e = vR q := by omega
      have := Dm.V_inj k hq this
      exact Prod.ext this.1 this.2
    · rintro rfl
      have : vR e = vR d := by omega
      have := Dm.V_inj k hkd this
      exact Prod.ext this.1 this.2
  by_cases hd : es[nbN es d]? = some d
  · have hlt := (List.getElem?_eq_some_iff.1 hd).1
    refine ⟨d, ?_, fun e he => ⟨Iff.rfl, Iff.rfl, Iff.rfl⟩⟩
    rw [likeN, if_pos hd, hP.edge _ hlt, hd]
  · rw [likeN, if_neg hd]
    obtain ⟨b, hbe⟩ : ∃ b, b = nbN es d := ⟨_, rfl⟩
    rw [← hbe] at hd hb iff ⊢
    have ne : ∀ (i : Nat) (e : Int × Int), es[i]? = some e → vR e ≠ vR d := by
      intro i e hi q
      have hed : e = d := by
        have := Dm.V_inj (hko e (List.mem_of_getElem? hi)) hkd q
        exact Prod.ext this.1 this.2
      subst hed
      have h1 := iff i e hi
      -- e is neither below nor is what stands at b below e: so it stands at b
      have hib : b ≤ i := by
        rcases Nat.lt_or_ge i b with q2 | q2
        · have := h1.2 q2; omega
        · exact q2
      have hil := (List.getElem?_eq_some_iff.1 hi).1
      rcases Nat.lt_or_eq_of_le hib with q2 | q2
      · obtain ⟨f, hf⟩ : ∃ f, es[b]? = some f := ⟨_, List.getElem?_eq_getElem (by omega)⟩
        have hbi := (List.pairwise_iff_getElem.1 hes) b i (by omega) hil q2
        have e1 : es[b]'(by omega) = f := Option.some.inj ((List.getElem?_eq_getElem (by omega)).symm.trans hf)
        have e2 : es[i] = e := Option.some.inj ((List.getElem?_eq_getElem hil).symm.trans hi)
        rw [e1, e2] at hbi
        have := (iff b f hf).1 hbi
        omega
      · subst q2
        exact hd hi
    obtain ⟨q, hq⟩ : ∃ q, l[2 * b]? = some q := ⟨_, List.getElem?_eq_getElem (by omega)⟩
    have hqo := hP.ok q (List.mem_of_getElem? hq)
    have mono : ∀ (i j : Nat) (a c : Int × Int), i ≤ j → es[i]? = some a → es[j]? = some c → vR a ≤ vR c := by
      intro i j a c hij ha hc
      have hjl := (List.getElem?_eq_some_iff.1 hc).1
      rcases Nat.lt_or_eq_of_le hij with q2 | q2
      · have hbi := (List.pairwise_iff_getElem.1 hes) i j (by omega) hjl q2
        have e1 : es[i]'(by omega) = a := Option.some.inj ((List.getElem?_eq_getElem (by omega)).symm.trans ha)
        have e2 : es[j] = c := Option.some.inj ((List.getElem?_eq_getElem hjl).symm.trans hc)
        rw [e1, e2] at hbi
        omega
      · subst q2
        rw [ha] at hc
        cases hc
        omega
    have one : (0 : Int) < one40 := by decide
    refine ⟨q, hq, done q hqo ?_⟩
    intro e he
    obtain ⟨i, hi⟩ := List.getElem?_of_mem he
    have hil := (List.getElem?_eq_some_iff.1 hi).1
    have h1 := iff i e hi
    have h2 := ne i e hi
    -- what is below q is what stands ahead of b
    have key : (i < b → vR e < vR q) ∧ (b ≤ i → vR q < vR e) := by
      constructor
      · intro hib
        obtain ⟨a, ha⟩ : ∃ a, es[b - 1]? = some a := ⟨_, List.getElem?_eq_getElem (by omega)⟩
        have m1 := mono i (b - 1) e a (by omega) hi ha
        by_cases hbl : b = es.length
        · obtain ⟨q', hq', hv⟩ := hP.last a (by rw [← hbl]; exact ha)
          rw [← hbl, hq] at hq'
          cases hq'
          omega
        · obtain ⟨c, hc⟩ : ∃ c, es[b]? = some c := ⟨_, List.getElem?_eq_getElem (by omega)⟩
          obtain ⟨q', hq', hv⟩ := hP.mid (b - 1) a c ha (by rw [show b - 1 + 1 = b by omega]; exact hc)
          rw [show 2 * (b - 1) + 2 = 2 * b by omega, hq] at hq'
          cases hq'
          have := (List.pairwise_iff_getElem.1 hes) (b - 1) b (by omega) (by omega) (by omega)
          have e1 : es[b - 1]'(by omega) = a := Option.some.inj ((List.getElem?_eq_getElem (by omega)).symm.trans ha)
          have e2 : es[b]'(by omega) = c := Option.some.inj ((List.getElem?_eq_getElem (by omega)).symm.trans hc)
          rw [e1, e2] at this
          omega
      · intro hib
        obtain ⟨c, hc⟩ : ∃ c, es[b]? = some c := ⟨_, List.getElem?_eq_getElem (by omega)⟩
        have m1 := mono b i c e hib hc hi
        by_cases hb0 : b = 0
        · subst hb0
          obtain ⟨q', hq', hv⟩ := hP.first c hc
          rw [show 2 * 0 = 0 by rfl, hq'] at hq
          cases hq
          omega
        · obtain ⟨a, ha⟩ : ∃ a, es[b - 1]? = some a := ⟨_, List.getElem?_eq_getElem (by omega)⟩
          obtain ⟨q', hq', hv⟩ := hP.mid (b - 1) a c ha (by rw [show b - 1 + 1 = b by omega]; exact hc)
          rw [show 2 * (b - 1) + 2 = 2 * b by omega, hq] at hq'
          cases hq'
          have := (List.pairwise_iff_getElem.1 hes) (b - 1) b (by omega) (by omega) (by omega)
          have e1 : es[b - 1]'(by omega) = a := Option.some.inj ((List.getElem?_eq_getElem (by omega)).symm.trans ha)
          have e2 : es[b]'(by omega) = c := Option.some.inj ((List.getElem?_eq_getElem (by omega)).symm.trans hc)
          rw [e1, e2] at this
          omega
    rcases Nat.lt_or_ge i b with hib | hib
    · have k1 := key.1 hib
      have k2 := h1.2 hib
      constructor <;> constructor <;> intro _ <;> omega
    · have k1 := key.2 hib
      have k2 : ¬ vR e < vR d := fun q2 => by have := h1.1 q2; omega
      constructor <;> constructor <;> intro _ <;> omega
end Go.Proofs.YtdkgapapdjefdaaGreatDoor

/- Plain words: no text in a test tells a text from the point that it is like; nor does any test. -/
namespace Go.Proofs.YtdkgapapdjefdaaGreatDoor
open Go.RowKit Go.Sort

/-- points that are not more stand ahead -/
theorem nbT_iff : ∀ {ps : List ByteArray} (s : ByteArray), ps.Pairwise (fun x y => bl x y = true) → ∀ (i : Nat) (e : ByteArray), ps[i]? = some e → (bl s e = false ↔ i < nbT ps s)
  | [], s, _, i, e, h => by simp at h
  | a :: es, s, hp, i, e, h => by
    obtain ⟨h1, h2⟩ := List.pairwise_cons.1 hp
    have ih := nbT_iff s h2
    by_cases ha : bl s a = false
    · have hc : nbT (a :: es) s = nbT es s + 1 := by unfold nbT; rw [List.countP_cons, if_pos (by simpa using ha)]
      cases i with
      | zero =>
        simp at h
        subst h
        rw [hc]
        constructor
        · intro _; omega
        · intro _; exact ha
      | succ j =>
        rw [hc, ih j e (by simpa using h)]
        omega
    · have ha' : bl s a = true := by simpa using ha
      have hc : nbT (a :: es) s = 0 := by
        unfold nbT
        rw [List.countP_eq_zero]
        intro x hx
        rcases List.mem_cons.1 hx with rfl | hx
        · simp [ha']
        · simp [bl_trans s a x ha' (h1 x hx)]
      rw [hc]
      constructor
      · intro q
        cases i with
        | zero =>
          simp at h
          subst h
          rw [ha'] at q; cases q
        | succ j =>
          rw [bl_trans s a e ha' (h1 e (List.mem_of_getElem? (show es[j]? = some e by simpa using h)))] at q
          cases q
      · intro q; omega

theorem stepT_sub (acc : List ByteArray) (e x : ByteArray) (h : x ∈ acc) : x ∈ stepT acc e := by
  unfold stepT
  split
  · exact List.mem_append_left _ h
  · exact List.mem_append_left _ (List.mem_append_left _ h)
theorem stepT_has (acc : List ByteArray) (e : ByteArray) : e ∈ stepT acc e ∧ zT e ∈ stepT acc e := by
  unfold stepT
  split
  · rename_i h
    exact ⟨List.mem_append_left _ (List.mem_of_getLast? h), by simp⟩
  · exact ⟨by simp, by simp⟩
theorem foldT_sub : ∀ (es acc : List ByteArray) (x : ByteArray), x ∈ acc → x ∈ es.foldl stepT acc
  | [], acc, x, h => h
  | e :: es, acc, x, h => by rw [List.foldl_cons]; exact foldT_sub es _ x (stepT_sub acc e x h)
theorem foldT_has : ∀ (es acc : List ByteArray) (e : ByteArray), e ∈ es → e ∈ es.foldl stepT acc ∧ zT e ∈ es.foldl stepT acc
  | [], acc, e, h => by cases h
  | f :: es, acc, e, h => by
    rw [List.foldl_cons]
    rcases List.mem_cons.1 h with rfl | h
    · exact ⟨foldT_sub es _ _ (stepT_has acc e).1, foldT_sub es _ _ (stepT_has acc e).2⟩
    · exact foldT_has es _ e h

theorem txt_stand {es : List ByteArray} (s : ByteArray) (hes : es.Pairwise (fun x y => bl x y = true)) :
    ∃ n q, (nbT (ptsT es) s : Int) - 1 = ((n : Nat) : Int) ∧ (ptsT es)[n]? = some q ∧ ∀ e ∈ es, bl e s = bl e q ∧ bl s e = bl q e ∧ (e = s ↔ e = q) := by
  have hp := ptsT_rise hes
  have iff := nbT_iff s hp
  have hn : nbT (ptsT es) s ≤ (ptsT es).length := List.countP_le_length
  have he0 : (⟨#[]⟩ : ByteArray) ∈ ptsT es := foldT_sub es _ _ (by simp)
  obtain ⟨i0, hi0⟩ := List.getElem?_of_mem he0
  have h0 := (iff i0 _ hi0).1 (bl_nil s)
  obtain ⟨n, hnn⟩ : ∃ n, nbT (ptsT es) s = n + 1 := ⟨nbT (ptsT es) s - 1, by omega⟩
  obtain ⟨q, hq⟩ : ∃ q, (ptsT es)[n]? = some q := ⟨_, List.getElem?_eq_getElem (by omega)⟩
  refine ⟨n, q, by omega, hq, ?_⟩
  have hqs : bl s q = false := (iff n q hq).2 (by omega)
  -- every point is not more than q, or it is more than s
  have key : ∀ x ∈ ptsT es, bl q x = false ∨ bl s x = true := by
    intro x hx
    obtain ⟨j, hj⟩ := List.getElem?_of_mem hx
    by_cases hjn : j ≤ n
    · left
      rcases Nat.lt_or_eq_of_le hjn with q2 | q2
      · have hnl := (List.getElem?_eq_some_iff.1 hq).1
        have h := (List.pairwise_iff_getElem.1 hp) j n (by omega) hnl q2
        have e1 : (ptsT es)[j]'(by omega) = x := Option.some.inj ((List.getElem?_eq_getElem (by omega)).symm.trans hj)
        have e2 : (ptsT es)[n] = q := Option.some.inj ((List.getElem?_eq_getElem hnl).symm.trans hq)
        rw [e1, e2] at h
        rcases bl_tri x q with ⟨_, h2, _⟩ | ⟨h2, _⟩ | ⟨h2, _⟩
        · exact h2
        · rw [h] at h2; cases h2
        · rw [h] at h2; cases h2
      · subst q2
        rw [hq] at hj
        cases hj
        exact bl_irr q
    · right
      cases hx2 : bl s x with
      | true => rfl
      | false =>
        have := (iff j x hj).1 hx2
        omega
  have le_trans' : ∀ a b c : ByteArray, bl b a = false → bl c b = false → bl c a = false := by
    intro a b c h1 h2
    have := swoT.ntrans c b a (by rw [ltT]; exact h2) (by rw [ltT]; exact h1)
    rwa [ltT] at this
  intro e he
  obtain ⟨m1, m2⟩ := foldT_has es [⟨#[]⟩] e he
  have m1 : e ∈ ptsT es := m1
  have m2 : zT e ∈ ptsT es := m2
  rcases bl_tri e s with ⟨a1, a2, a3⟩ | ⟨a1, a2, a3⟩ | ⟨a1, a2, a3⟩
  · -- e below s: so is what follows e, which is not more than q
    have hz : bl s (zT e) = false := zT_least a1
    have hqz : bl q (zT e) = false := by
      rcases key _ m2 with h | h
      · exact h
      · rw [hz] at h; cases h
    have heq : bl e q = true := by
      rcases bl_tri e q with ⟨h, _⟩ | ⟨_, h, _⟩ | ⟨_, _, h⟩
      · exact h
      · rw [bl_trans q e _ h (bl_zT e)] at hqz; cases hqz
      · subst h; rw [bl_zT e] at hqz; cases hqz
    rcases bl_tri e q with ⟨b1, b2, b3⟩ | ⟨b1, b2, b3⟩ | ⟨b1, b2, b3⟩
    · exact ⟨by rw [a1, b1], by rw [a2, b2], ⟨fun h => absurd h a3, fun h => absurd h b3⟩⟩
    · rw [heq] at b1; cases b1
    · rw [heq] at b1; cases b1
  · -- e above s, so above q
    have hqe : bl q e = true := by
      rcases bl_tri q e with ⟨h, _⟩ | ⟨h, h', _⟩ | ⟨h, _, h'⟩
      · exact h
      · rw [le_trans' e q s h hqs] at a2; cases a2
      · subst h'; rw [hqs] at a2; cases a2
    rcases bl_tri e q with ⟨b1, b2, b3⟩ | ⟨b1, b2, b3⟩ | ⟨b1, b2, b3⟩
    · rw [hqe] at b2; cases b2
    · exact ⟨by rw [a1, b1], by rw [a2, b2], ⟨fun h => absurd h a3, fun h => absurd h b3⟩⟩
    · rw [hqe] at b2; cases b2
  · -- e is s: it is a point, so it is q
    subst a3
    have h1 : bl q e = false := by
      rcases key _ m1 with h | h
      · exact h
      · rw [bl_irr] at h; cases h
    have h2 : e = q := by
      rcases bl_tri e q with ⟨h, _⟩ | ⟨_, h, _⟩ | ⟨_, _, h⟩
      · rw [hqs] at h; cases h
      · rw [h1] at h; cases h
      · exact h
    subst h2
    exact ⟨rfl, rfl, Iff.rfl⟩

/-- two values that a third one does not tell apart -/
def Alike (v q a : Tree) : Prop := lessH v a = lessH q a ∧ lessH a v = lessH a q ∧ eqP v a = eqP q a
mutual
theorem does_alike : ∀ (T : TS) (v q : Tree), (k : Nat) → wrongS T k = 0 → (∀ a ∈ valsS T, Alike v q a) → doesS T v = doesS T q
  | .mk k a b oa ob ks, v, q, d, hw, h => by
    have h4 : ¬ 4 < d := fun q => by rw [ws_much q] at hw; cases hw
    by_cases hk : k < 1 ∨ 9 < k
    · rw [ws_kind h4 hk] at hw; cases hw
    by_cases h8 : k = 8 ∨ k = 9
    · rw [ws_kids h4 h8] at hw
      rw [vals_kids h8] at h
      split at hw
      · cases hw
      · have := doesL_alike ks v q (d + 1) hw h
        rw [doesS, doesS, this]
        rcases h8 with rfl | rfl <;> rfl
    by_cases h1 : k = 1
    · rw [doesS, doesS, if_pos h1, if_pos h1]
    by_cases h7 : k = 7
    · subst h7
      rw [vals_two] at h
      obtain ⟨a1, a2, a3⟩ := h a (by simp)
      obtain ⟨b1, b2, b3⟩ := h b (by simp)
      rw [doesS, doesS, a1, a2, a3, b1, b2]
      rfl
    · rw [vals_one (by omega)] at h
      obtain ⟨a1, a2, a3⟩ := h a (by simp)
      have n7 : ¬ k = 7 := h7
      have n8 : ¬ k = 8 := by omega
      have n9 : k = 2 ∨ k = 3 ∨ k = 4 ∨ k = 5 ∨ k = 6 := by omega
      rw [doesS, doesS, a1, a2, a3]
      rcases n9 with rfl | rfl | rfl | rfl | rfl <;> rfl
theorem doesL_alike : ∀ (ks : List TS) (v q : Tree), (k : Nat) → wrongSL ks k = 0 → (∀ a ∈ valsL ks, Alike v q a) → doesL ks v = doesL ks q
  | [], v, q, d, _, _ => by rw [doesL, doesL]
  | u :: us, v, q, d, hw, h => by
    have h0 : wrongS u d = 0 := by
      rw [wrongSL] at hw
      split at hw
      · assumption
      · exact hw
    rw [wrongSL, if_pos h0] at hw
    rw [valsL] at h
    rw [doesL, doesL, does_alike u v q d h0 (fun a ha => h a (List.mem_append_left _ ha)), doesL_alike us v q d hw (fun a ha => h a (List.mem_append_right _ ha))]
end
mutual
theorem vals_fit : ∀ (T : TS) (kind : Int) (d : Nat), kindOk kind → wrongS T d = 0 → fitsS T kind = true → ∀ a ∈ valsS T, a.kd = 1 ∨ a.kd = kind
  | .mk k a b oa ob ks, kind, d, hko, hw, hf, c, hc => by
    have h4 : ¬ 4 < d := fun q => by rw [ws_much q] at hw; cases hw
    have fit : ∀ x : Int, fitV x kind = true → x = 1 ∨ x = kind := by
      intro x hx
      unfold fitV at hx
      rcases (hko : kind = 2 ∨ kind = 3 ∨ kind = 4) with rfl | rfl | rfl <;> simp at hx <;> omega
    by_cases hk : k < 1 ∨ 9 < k
    · rw [ws_kind h4 hk] at hw; cases hw
    by_cases h8 : k = 8 ∨ k = 9
    · rw [ws_kids h4 h8] at hw
      rw [vals_kids h8] at hc
      rw [fitsS, if_neg (by omega), if_pos h8] at hf
      split at hw
      · cases hw
      · exact valsL_fit ks kind (d + 1) hko hw hf c hc
    by_cases h1 : k = 1
    · subst h1
      rw [vals_none (by omega)] at hc
      cases hc
    rw [fitsS, if_neg h1, if_neg h8] at hf
    have fa := fit a.kd hf
    by_cases h7 : k = 7
    · subst h7
      rw [ws_in h4] at hw
      rw [vals_two] at hc
      simp only [List.mem_cons, List.not_mem_nil, or_false] at hc
      rcases hc with rfl | rfl
      · exact fa
      · have hv := twoW0 hw
        unfold twoW at hw
        rw [if_pos hv.1, if_pos hv.2] at hw
        split at hw
        · split at hw
          · rename_i h; rw [h]; exact fa
          · cases hw
        · cases hw
    · rw [vals_one (by omega), List.mem_singleton] at hc
      rw [hc]
      exact fa
theorem valsL_fit : ∀ (ks : List TS) (kind : Int) (d : Nat), kindOk kind → wrongSL ks d = 0 → fitsL ks kind = true → ∀ a ∈ valsL ks, a.kd = 1 ∨ a.kd = kind
  | [], kind, d, _, _, _, a, ha => by rw [valsL] at ha; cases ha
  | u :: us, kind, d, hko, hw, hf, a, ha => by
    have h0 : wrongS u d = 0 := by
      rw [wrongSL] at hw
      split at hw
      · assumption
      · exact hw
    rw [wrongSL, if_pos h0] at hw
    rw [fitsL, Bool.and_eq_true] at hf
    rw [valsL] at ha
    rcases List.mem_append.1 ha with q | q
    · exact vals_fit u kind d hko h0 hf.1 a q
    · exact valsL_fit us kind d hko hw hf.2 a q
end
end Go.Proofs.YtdkgapapdjefdaaGreatDoor

/- Plain words: a valid text with a valid text behind is valid. -/
namespace Go.Proofs.YtdkgapapdjefdaaGreatDoor

theorem val_step {l : List UInt8} (h : Lib.validD l = true) (hne : l ≠ []) : ¬ ((Lib.decodeL l).1 = 65533 ∧ (Lib.decodeL l).2 = 1) ∧ Lib.validD (l.drop (Lib.decodeL l).2) = true := by
  rw [Lib.validD_step l hne] at h
  split at h
  · cases h
  · rename_i hc; exact ⟨hc, h⟩
theorem dec_ascii {b : UInt8} {t : List UInt8} (h : b.toNat < 128) : Lib.decodeL (b :: t) = (b.toNat, 1) := Lib.decodeL_ascii b t h
theorem getD_app {l u : List UInt8} {i : Nat} (h : i < l.length) : (l ++ u).getD i 0 = l.getD i 0 := by
  rw [List.getD_eq_getElem?_getD, List.getD_eq_getElem?_getD, List.getElem?_append_left h]
/-- a rune is read of its own bytes alone -/
theorem dec_app {l : List UInt8} (u : List UInt8) (hne : l ≠ []) (hv : ¬ ((Lib.decodeL l).1 = 65533 ∧ (Lib.decodeL l).2 = 1)) : Lib.decodeL (l ++ u) = Lib.decodeL l := by
  have hl : 0 < l.length := List.length_pos_iff.2 hne
  rw [Lib.decodeL_N] at hv ⊢
  rw [Lib.decodeL_N l]
  rw [getD_app hl]
  have hn : l.length ≤ (l ++ u).length := by simp
  rcases Lib.decodeN_shape l.length (l.getD 0 0).toNat (l.getD 1 0).toNat (l.getD 2 0).toNat (l.getD 3 0).toNat with ⟨c, e⟩ | ⟨c1, c2, c3, cv, e⟩ | ⟨c1, c2, c3, c4, cv, cs, e⟩ | ⟨c1, c2, c3, c4, c5, cv, cw, e⟩ | e
  · rw [e]; exact Lib.decodeN_ascii _ _ _ _ _ c
  · rw [e, getD_app (i := 1) (by omega)]
    generalize (l.getD 0 0).toNat = b0 at *
    generalize (l.getD 1 0).toNat = b1 at *
    unfold Lib.decodeN
    rw [if_neg (by omega), if_pos ⟨c1, by omega, c3⟩, if_pos (by omega)]
  · rw [e, getD_app (i := 1) (by omega), getD_app (i := 2) (by omega)]
    generalize (l.getD 0 0).toNat = b0 at *
    generalize (l.getD 1 0).toNat = b1 at *
    generalize (l.getD 2 0).toNat = b2 at *
    unfold Lib.decodeN
    rw [if_neg (by omega), if_neg (by omega), if_pos ⟨c1, ⟨by omega, c3⟩, by omega, c4⟩, if_pos (by omega)]
  · rw [e, getD_app (i := 1) (by omega), getD_app (i := 2) (by omega), getD_app (i := 3) (by omega)]
    generalize (l.getD 0 0).toNat = b0 at *
    generalize (l.getD 1 0).toNat = b1 at *
    generalize (l.getD 2 0).toNat = b2 at *
    generalize (l.getD 3 0).toNat = b3 at *
    unfold Lib.decodeN
    rw [if_neg (by omega), if_neg (by omega), if_neg (by omega), if_pos ⟨c1, ⟨by omega, c3⟩, ⟨by omega, c4⟩, by omega, c5⟩, if_pos (by omega)]
  · exact absurd (by rw [e]; exact ⟨rfl, rfl⟩) hv
theorem app_ne {l u : List UInt8} (h : l ≠ []) : l ++ u ≠ [] := by intro e; exact h (List.append_eq_nil_iff.1 e).1
theorem drop_app {l u : List UInt8} {n : Nat} (h : n ≤ l.length) : (l ++ u).drop n = l.drop n ++ u := by
  rw [List.drop_append_of_le_length h]
theorem val_app : ∀ (n : Nat) (l u : List UInt8), l.length ≤ n → Lib.validD l = true → Lib.validD u = true → Lib.validD (l ++ u) = true
  | 0, l, u, h, _, hu => by
    have : l = [] := List.eq_nil_of_length_eq_zero (by omega)
    subst this; simpa using hu
  | n + 1, l, u, h, hl, hu => by
    by_cases hne : l = []
    · subst hne; simpa using hu
    · obtain ⟨v1, v2⟩ := val_step hl hne
      have hw := Lib.decodeL_width l
      have hle := Lib.decodeL_le l hne
      rw [Lib.validD_step _ (app_ne hne), dec_app u hne v1, if_neg v1, drop_app hle]
      exact val_app n _ u (by rw [List.length_drop]; omega) v2 hu
end Go.Proofs.YtdkgapapdjefdaaGreatDoor

/- Plain words: a value and the point that it is like; each test says the same of both. -/
namespace Go.Proofs.YtdkgapapdjefdaaGreatDoor
open Go.RowKit Go.Sort

theorem zT_right {e : ByteArray} (h : wrongT e = 0) (hs : e.size < 1000) : wrongT (zT e) = 0 := by
  unfold wrongT at h ⊢
  rw [if_neg (by omega)] at h
  have hz : (zT e).size = e.size + 1 := by unfold zT; rw [ByteArray.size_append]; rfl
  rw [if_neg (by rw [hz]; omega)]
  split at h
  · rename_i hv
    have : (zT e).data.toList = e.data.toList ++ [0] := by
      have := zT_list e
      rwa [ByteArray.toList_eq, ByteArray.toList_eq] at this
    rw [this, val_app e.data.toList.length _ [0] (Nat.le_refl _) hv (by decide)]
    rfl
  · cases h
theorem stepT_all {p : ByteArray → Prop} {acc : List ByteArray} {e : ByteArray} (ha : ∀ x ∈ acc, p x) (he : p e) (hz : p (zT e)) : ∀ x ∈ stepT acc e, p x := by
  intro x hx
  unfold stepT at hx
  split at hx
  · rcases List.mem_append.1 hx with q | q
    · exact ha x q
    · rw [List.mem_singleton.1 q]; exact hz
  · rcases List.mem_append.1 hx with q | q
    · rcases List.mem_append.1 q with q | q
      · exact ha x q
      · rw [List.mem_singleton.1 q]; exact he
    · rw [List.mem_singleton.1 q]; exact hz
theorem foldT_all {p : ByteArray → Prop} : ∀ (es acc : List ByteArray), (∀ x ∈ acc, p x) → (∀ e ∈ es, p e ∧ p (zT e)) → ∀ x ∈ es.foldl stepT acc, p x
  | [], acc, h, _ => h
  | e :: es, acc, h, he => by
    rw [List.foldl_cons]
    exact foldT_all es _ (stepT_all h (he e (by simp)).1 (he e (by simp)).2) (fun f hf => he f (by simp [hf]))
theorem ptsT_right {es : List ByteArray} (h : ∀ e ∈ es, wrongT e = 0) (hr : roomy es = true) : ∀ p ∈ ptsT es, wrongT p = 0 := by
  refine foldT_all es _ (fun x hx => ?_) (fun e he => ⟨h e he, zT_right (h e he) ?_⟩)
  · rw [List.mem_singleton.1 hx]
    decide
  · unfold roomy at hr
    rw [List.all_eq_true] at hr
    simpa using hr e he

theorem alike_null {v q a : Tree} (hk : v.kd = q.kd) (hv : v.kd ≠ 1) (ha : a.kd = 1) : Alike v q a := by
  obtain ⟨k, y, c, x, t, ks⟩ := v
  obtain ⟨k', y', c', x', t', ks'⟩ := q
  obtain ⟨k2, y2, c2, x2, t2, ks2⟩ := a
  have hk : k = k' := hk
  have hv : ¬ k = 1 := hv
  have ha : k2 = 1 := ha
  subst hk
  subst ha
  unfold Alike
  have h1 : ¬ (1 : Int) = k := fun e => hv e.symm
  refine ⟨?_, ?_, ?_⟩
  · rw [lessH, lessH, if_neg (by omega), if_neg (by omega), if_neg (by omega), if_neg (by omega)]
  · rw [lessH, lessH, if_neg (by omega), if_neg (by omega), if_neg (by omega), if_neg (by omega)]
  · rw [eqP, eqP, if_pos (.inr rfl), if_neg hv, if_pos (.inr rfl)]

theorem lessH_num (y y' : Bool) (c x c' x' : Int) (t t' : ByteArray) (ks ks' : List Tree) : lessH (.mk 3 y c x t ks) (.mk 3 y' c' x' t' ks') = if Dm.sgn (Dm.V c x - Dm.V c' x') < 0 then 2 else 0 := by
  rw [lessH, if_pos ⟨rfl, rfl⟩]
theorem lessH_txt (y y' : Bool) (c x c' x' : Int) (t t' : ByteArray) (ks ks' : List Tree) : lessH (.mk 4 y c x t ks) (.mk 4 y' c' x' t' ks') = if Op.bytesLess t.toList t'.toList = true then 2 else 0 := by
  rw [lessH, if_neg (by omega), if_pos ⟨rfl, rfl⟩]
theorem eqP_num (y y' : Bool) (c x c' x' : Int) (t t' : ByteArray) (ks ks' : List Tree) : eqP (.mk 3 y c x t ks) (.mk 3 y' c' x' t' ks') = if c = c' ∧ x = x' then 2 else 0 := by
  rw [eqP, if_neg (by omega), if_pos rfl, if_neg (by omega), if_pos rfl]
theorem eqP_txt (y y' : Bool) (c x c' x' : Int) (t t' : ByteArray) (ks ks' : List Tree) : eqP (.mk 4 y c x t ks) (.mk 4 y' c' x' t' ks') = if t.toList = t'.toList then 2 else 0 := by
  rw [eqP, if_neg (by omega), if_pos rfl, if_neg (by omega), if_neg (by omega), if_pos rfl]

/-- what is read of a point -/
structure Leaf (q : Tree) : Prop where
  ok : (wrongF q 0 1).1 = 0
  nil : ∃ k y c x t, q = .mk k y c x t []
  sz : q.tx.size ≤ 1000

theorem stand_plain {kind : Int} {ts : List TS} {er : Int} {ps : List Tree} (h : IsPoints kind ts er ps) (h0 : er = 0) {v : Tree} (hw : (wrongF v 0 1).1 = 0) (hk : v.kd = kind) :
    ∃ (n : Nat) (q : Tree), likeI kind ts v = (n : Int) ∧ ps[n]? = some q ∧ Leaf q ∧ ∀ T ∈ ts, doesS T v = doesS T q := by
  obtain ⟨hask, hko, _⟩ := isPoints_ok h h0
  obtain ⟨_, _, hwl, hall, _⟩ := asked_right hask
  have mem : ∀ T ∈ ts, ∀ a ∈ valsS T, a ∈ valsL ts := by
    intro T hT a ha
    obtain ⟨i, hi⟩ := List.getElem?_of_mem hT
    obtain ⟨s, t, rfl⟩ := List.append_of_mem hT
    rw [valsL_app, valsL]
    exact List.mem_append_right _ (List.mem_append_left _ ha)
  have fin : ∀ q : Tree, q.kd = kind → (∀ a ∈ valsL ts, a.kd = kind → valW a = 0 → Alike v q a) → ∀ T ∈ ts, doesS T v = doesS T q := by
    intro q hq hal T hT
    obtain ⟨w1, f1⟩ := hall T hT
    refine does_alike T v q 1 w1 (fun a ha => ?_)
    rcases vals_fit T kind 1 hko w1 f1 a ha with e | e
    · refine alike_null (by rw [hk, hq]) ?_ e
      rcases (hko : kind = 2 ∨ kind = 3 ∨ kind = 4) with e2 | e2 | e2 <;> rw [hk, e2] <;> decide
    · exact hal a (mem T hT a ha) e (vals_right T 1 w1 a ha)
  rcases (hko : kind = 2 ∨ kind = 3 ∨ kind = 4) with rfl | rfl | rfl
  · have e := isPoints_bool h rfl hask
    subst e
    obtain ⟨k, y, c, x, t, ks⟩ := v
    have hk : k = 2 := hk
    subst hk
    refine ⟨if y = true then 1 else 0, boolT y, ?_, ?_, ⟨by rw [boolT, wrongF]; decide, ⟨2, y, 0, 0, ⟨#[]⟩, rfl⟩, by show (⟨#[]⟩ : ByteArray).size ≤ 1000; decide⟩, fin (boolT y) rfl ?_⟩
    · unfold likeI
      rw [if_neg (by decide), if_neg (by decide)]
      cases y <;> rfl
    · cases y <;> rfl
    · intro a _ ha _
      obtain ⟨k2, y2, c2, x2, t2, ks2⟩ := a
      have ha : k2 = 2 := ha
      subst ha
      refine ⟨?_, ?_, ?_⟩
      · rw [boolT, lessH, lessH]; rfl
      · rw [boolT, lessH, lessH]; rfl
      · rw [boolT, eqP, eqP]; rfl
  · obtain ⟨l, hP, rfl⟩ := isPoints_num h rfl hask
    obtain ⟨hf, _⟩ := numE_few hask
    have hkd := wf_right hw hk
    obtain ⟨q, hq, hst⟩ := num_stand hP (numE_rise ts (fun p hp => (hf p hp).ok)) (fun p hp => (hf p hp).ok) hkd
    have hqo := hP.ok q (List.mem_of_getElem? hq)
    obtain ⟨k, y, c, x, t, ks⟩ := v
    have hk : k = 3 := hk
    subst hk
    refine ⟨likeN (numE ts) (c, x), numT q, rfl, by rw [List.getElem?_map]; exact congrArg (Option.map numT) hq, ⟨by rw [numT, wrongF]; simpa using hqo, ⟨3, false, q.1, q.2, ⟨#[]⟩, rfl⟩, by show (⟨#[]⟩ : ByteArray).size ≤ 1000; decide⟩, fin (numT q) rfl ?_⟩
    intro a ha hak _
    obtain ⟨k2, y2, c2, x2, t2, ks2⟩ := a
    have hak : k2 = 3 := hak
    subst hak
    have hm : (c2, x2) ∈ numE ts := (numE_mem ts _).2 ⟨_, ha, by rw [numV, if_pos rfl]; simp⟩
    obtain ⟨s1, s2, s3⟩ := hst (c2, x2) hm
    have g1 : Dm.sgn (Dm.V c x - Dm.V c2 x2) < 0 ↔ Dm.sgn (Dm.V q.1 q.2 - Dm.V c2 x2) < 0 := by
      have a1 := Dm.sgn_cases (Dm.V c x - Dm.V c2 x2)
      have a2 := Dm.sgn_cases (Dm.V q.1 q.2 - Dm.V c2 x2)
      have s2' : Dm.V c x < Dm.V c2 x2 ↔ Dm.V q.1 q.2 < Dm.V c2 x2 := s2
      omega
    have g2 : Dm.sgn (Dm.V c2 x2 - Dm.V c x) < 0 ↔ Dm.sgn (Dm.V c2 x2 - Dm.V q.1 q.2) < 0 := by
      have a1 := Dm.sgn_cases (Dm.V c2 x2 - Dm.V c x)
      have a2 := Dm.sgn_cases (Dm.V c2 x2 - Dm.V q.1 q.2)
      have s1' : Dm.V c2 x2 < Dm.V c x ↔ Dm.V c2 x2 < Dm.V q.1 q.2 := s1
      omega
    have g3 : (c = c2 ∧ x = x2) ↔ (q.1 = c2 ∧ q.2 = x2) := by
      constructor
      · rintro ⟨rfl, rfl⟩
        have := s3.1 rfl
        rw [← this]
        exact ⟨rfl, rfl⟩
      · rintro ⟨e1, e2⟩
        have : (c2, x2) = q := Prod.ext e1.symm e2.symm
        have := s3.2 this
        rw [Prod.mk.injEq] at this
        exact ⟨this.1.symm, this.2.symm⟩
    refine ⟨?_, ?_, ?_⟩
    · rw [numT, lessH_num, lessH_num]
      simp only [g1]
    · rw [numT, lessH_num, lessH_num]
      simp only [g2]
    · rw [numT, eqP_num, eqP_num]
      simp only [g3]
  · obtain ⟨hro, rfl⟩ := isPoints_txt h rfl hask h0
    obtain ⟨hf, _⟩ := txtE_few hask
    obtain ⟨k, y, c, x, t, ks⟩ := v
    have hk : k = 4 := hk
    subst hk
    obtain ⟨n, q, hn, hq, hst⟩ := txt_stand t (txtE_rise ts)
    have hqo := ptsT_right hf hro q (List.mem_of_getElem? hq)
    refine ⟨n, txtT q, hn, by rw [List.getElem?_map, hq]; rfl, ⟨by rw [txtT, wrongF]; simpa using hqo, ⟨4, false, 0, 0, q, rfl⟩, by
      show q.size ≤ 1000
      unfold wrongT at hqo
      split at hqo
      · cases hqo
      · omega⟩, fin (txtT q) rfl ?_⟩
    intro a ha hak _
    obtain ⟨k2, y2, c2, x2, t2, ks2⟩ := a
    have hak : k2 = 4 := hak
    subst hak
    have hm : t2 ∈ txtE ts := (txtE_mem ts _).2 ⟨_, ha, by rw [txtV, if_pos rfl]; simp⟩
    obtain ⟨s1, s2, s3⟩ := hst t2 hm
    unfold bl at s1 s2
    have g3 : (t.toList = t2.toList) ↔ (q.toList = t2.toList) := by
      have e1 : ∀ a b : ByteArray, a.toList = b.toList ↔ a = b := fun a b => by
        constructor
        · intro h; rw [ByteArray.toList_eq, ByteArray.toList_eq] at h; exact WideShapes.bytes_inj h
        · rintro rfl; rfl
      rw [e1, e1]
      constructor
      · rintro rfl; exact (s3.1 rfl).symm
      · rintro rfl; exact (s3.2 rfl).symm
    refine ⟨?_, ?_, ?_⟩
    · rw [txtT, lessH_txt, lessH_txt, s2]
    · rw [txtT, lessH_txt, lessH_txt, s1]
    · rw [txtT, eqP_txt, eqP_txt]
      simp only [g3]
end Go.Proofs.YtdkgapapdjefdaaGreatDoor

/- PointsMore, in plain words: who cannot be told apart by more tests cannot be told apart by fewer. -/
namespace Go.Proofs.YtdkgapapdjefdaaGreatDoor
open Go.RowKit Go.Sort

theorem askL_sub {kind : Int} : ∀ (l m : List TS), askL kind (l ++ m) = 0 → askL kind l = 0
  | [], _, _ => rfl
  | u :: l, m, h => by
    rw [List.cons_append, askL] at h
    rw [askL]
    by_cases h1 : wrongS u 1 = 0
    · rw [if_pos h1] at h ⊢
      by_cases h2 : fitsS u kind = true
      · rw [if_pos h2] at h ⊢
        exact askL_sub l m h
      · rw [if_neg h2] at h
        cases h
    · rw [if_neg h1] at h
      exact absurd h h1
theorem askW_sub {kind : Int} {l m : List TS} (h : askW kind (l ++ m) = 0) : askW kind l = 0 := by
  unfold askW at h ⊢
  by_cases hk : kindOk kind
  · rw [if_pos hk] at h ⊢
    by_cases hl : 20 < (l ++ m).length
    · rw [if_pos hl] at h
      cases h
    · rw [if_neg hl] at h
      rw [List.length_append] at hl
      rw [if_neg (by omega)]
      exact askL_sub l m h
  · rw [if_neg hk] at h
    cases h
theorem numE_sub {l m : List TS} {p : Int × Int} (h : p ∈ numE l) : p ∈ numE (l ++ m) := by
  obtain ⟨v, hv, hp⟩ := (numE_mem l p).1 h
  exact (numE_mem _ p).2 ⟨v, by rw [valsL_app]; exact List.mem_append_left _ hv, hp⟩
theorem txtE_sub {l m : List TS} {p : ByteArray} (h : p ∈ txtE l) : p ∈ txtE (l ++ m) := by
  obtain ⟨v, hv, hp⟩ := (txtE_mem l p).1 h
  exact (txtE_mem _ p).2 ⟨v, by rw [valsL_app]; exact List.mem_append_left _ hv, hp⟩
theorem roomy_sub {l m : List TS} (h : roomy (txtE (l ++ m)) = true) : roomy (txtE l) = true := by
  unfold roomy at h ⊢
  rw [List.all_eq_true] at h ⊢
  exact fun s hs => h s (txtE_sub hs)
theorem ptsErr_zero {kind : Int} {ts : List TS} (h : ptsErr kind ts = 0) : askW kind ts = 0 ∧ (kind = 4 → roomy (txtE ts) = true) := by
  unfold ptsErr at h
  by_cases h1 : askW kind ts = 0
  · rw [if_pos h1] at h
    refine ⟨h1, fun hk => ?_⟩
    cases hr : roomy (txtE ts) with
    | true => rfl
    | false =>
      rw [if_pos ⟨hk, hr⟩] at h
      cases h
  · rw [if_neg h1] at h
    exact absurd h h1
theorem ptsErr_sub {kind : Int} {l m : List TS} (h : ptsErr kind (l ++ m) = 0) : ptsErr kind l = 0 := by
  obtain ⟨h1, h2⟩ := ptsErr_zero h
  unfold ptsErr
  rw [if_pos (askW_sub h1), if_neg]
  rintro ⟨hk, hr⟩
  rw [roomy_sub (h2 hk)] at hr
  cases hr
theorem likeF_zero {kind : Int} {ts : List TS} {v : Tree} (h : (likeF kind ts v).2 = 0) : ptsErr kind ts = 0 ∧ (wrongF v 0 1).1 = 0 ∧ v.kd = kind ∧ likeF kind ts v = (likeI kind ts v, 0) := by
  unfold likeF at h ⊢
  by_cases h1 : ptsErr kind ts = 0
  · rw [if_pos h1] at h ⊢
    by_cases h2 : (wrongF v 0 1).1 = 0
    · rw [if_pos h2] at h ⊢
      by_cases h3 : v.kd = kind
      · rw [if_pos h3]
        exact ⟨h1, h2, h3, rfl⟩
      · rw [if_neg h3] at h
        cases h
    · rw [if_neg h2] at h
      exact absurd h h2
  · rw [if_neg h1] at h
    exact absurd h h1
/-- an edge stands where it is counted to -/
theorem nb_at {es : List (Int × Int)} {d : Int × Int} (hes : es.Pairwise (fun x y => vR x < vR y)) (hd : d ∈ es) : es[nbN es d]? = some d := by
  obtain ⟨i, hi⟩ := List.getElem?_of_mem hd
  have h1 := nb_iff d hes
  have h2 : ¬ i < nbN es d := fun q => by
    have := (h1 i d hi).2 q
    omega
  rcases Nat.lt_or_ge (nbN es d) i with q | q
  · have hl := (List.getElem?_eq_some_iff.1 hi).1
    obtain ⟨e, he⟩ : ∃ e, es[nbN es d]? = some e := ⟨_, List.getElem?_eq_getElem (by omega)⟩
    have h3 : vR e < vR d := by
      obtain ⟨_, e1⟩ := List.getElem?_eq_some_iff.1 he
      obtain ⟨_, e2⟩ := List.getElem?_eq_some_iff.1 hi
      have := List.pairwise_iff_getElem.1 hes (nbN es d) i (by omega) hl q
      rw [e1, e2] at this
      exact this
    exact absurd ((h1 _ e he).1 h3) (by omega)
  · have : i = nbN es d := by omega
    rw [this] at hi
    exact hi
theorem likeN_sub {es fs : List (Int × Int)} {d d' : Int × Int} (hes : es.Pairwise (fun x y => vR x < vR y)) (hsub : ∀ e ∈ fs, e ∈ es) (h : likeN es d = likeN es d') : likeN fs d = likeN fs d' := by
  unfold likeN at h
  by_cases h1 : es[nbN es d]? = some d
  · rw [if_pos h1] at h
    by_cases h2 : es[nbN es d']? = some d'
    · rw [if_pos h2] at h
      have : nbN es d = nbN es d' := by omega
      rw [this, h2] at h1
      cases h1
      rfl
    · rw [if_neg h2] at h
      omega
  · rw [if_neg h1] at h
    by_cases h2 : es[nbN es d']? = some d'
    · rw [if_pos h2] at h
      omega
    · rw [if_neg h2] at h
      have hn : nbN es d = nbN es d' := by omega
      have same : ∀ e ∈ es, vR e < vR d ↔ vR e < vR d' := fun e he => by
        obtain ⟨i, hi⟩ := List.getElem?_of_mem he
        rw [nb_iff d hes i e hi, nb_iff d' hes i e hi, hn]
      have hc : nbN fs d = nbN fs d' := by
        unfold nbN
        exact List.countP_congr fun e he => by simpa using same e (hsub e he)
      have no : ∀ x : Int × Int, ¬ es[nbN es x]? = some x → ¬ fs[nbN fs x]? = some x := fun x hx q => hx (nb_at hes (hsub x (List.mem_of_getElem? q)))
      unfold likeN
      rw [if_neg (no d h1), if_neg (no d' h2), hc]
theorem nbT_sub {es fs : List ByteArray} {s s' : ByteArray} (hes : es.Pairwise (fun x y => bl x y = true)) (hsub : ∀ e ∈ fs, e ∈ es) (h : nbT es s = nbT es s') : nbT fs s = nbT fs s' := by
  have same : ∀ e ∈ es, bl s e = false ↔ bl s' e = false := fun e he => by
    obtain ⟨i, hi⟩ := List.getElem?_of_mem he
    rw [nbT_iff s hes i e hi, nbT_iff s' hes i e hi, h]
  unfold nbT
  exact List.countP_congr fun e he => by simpa using same e (hsub e he)
theorem ptsT_sub {es fs : List ByteArray} (hsub : ∀ e ∈ fs, e ∈ es) : ∀ p ∈ ptsT fs, p ∈ ptsT es :=
  foldT_all (p := fun x => x ∈ ptsT es) fs [⟨#[]⟩] (fun x hx => foldT_sub es _ x hx) (fun e he => foldT_has es _ e (hsub e he))
theorem likeI_sub {kind : Int} {l m : List TS} {v u : Tree} (hp : askW kind (l ++ m) = 0) (h : likeI kind (l ++ m) v = likeI kind (l ++ m) u) : likeI kind l v = likeI kind l u := by
  unfold likeI at h ⊢
  by_cases h3 : kind = 3
  · rw [if_pos h3, if_pos h3] at h ⊢
    have r1 := numE_rise (l ++ m) (fun p hq => ((numE_few hp).1 p hq).ok)
    have := likeN_sub (d := v.nm) (d' := u.nm) r1 (fun e he => numE_sub he) (by omega)
    omega
  · rw [if_neg h3, if_neg h3] at h ⊢
    by_cases h4 : kind = 4
    · rw [if_pos h4, if_pos h4] at h ⊢
      have := nbT_sub (s := v.tx) (s' := u.tx) (ptsT_rise (txtE_rise (l ++ m))) (ptsT_sub (fs := txtE l) fun e he => txtE_sub he) (by omega)
      omega
    · rw [if_neg h4, if_neg h4] at h ⊢
      exact h
/-- PointsMore's matter -/
theorem more_plain {kind : Int} {l m : List TS} {v u : Tree} (hv : (likeF kind (l ++ m) v).2 = 0) (hu : (likeF kind (l ++ m) u).2 = 0) (h : (likeF kind (l ++ m) v).1 = (likeF kind (l ++ m) u).1) :
    ∃ j, likeF kind l v = (j, 0) ∧ likeF kind l u = (j, 0) := by
  obtain ⟨p1, w1, k1, e1⟩ := likeF_zero hv
  obtain ⟨_, w2, k2, e2⟩ := likeF_zero hu
  rw [e1, e2] at h
  have hj := likeI_sub (ptsErr_zero p1).1 h
  refine ⟨likeI kind l v, ?_, ?_⟩
  · unfold likeF
    rw [if_pos (ptsErr_sub p1), if_pos w1, if_pos k1]
  · unfold likeF
    rw [if_pos (ptsErr_sub p1), if_pos w2, if_pos k2, hj]
end Go.Proofs.YtdkgapapdjefdaaGreatDoor
