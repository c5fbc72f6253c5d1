/- Brackets around all: the whole (plain). -/
import Derived.Test.YthpjejfgoohhfaaGreatDoorG23
namespace Go.Proofs.YthpjejfgoohhfaaGreatDoor
open Go.RowKit

/-- this was read, or there is too much -/
def Q4 (r : PR) (x : XT) (j : Nat) : Prop := r = (0, x, j) ∨ r.1 = 4
/-- a bracket that opens -/
def isOpenT (a : Tk) : Prop := a.k = 4 ∧ a.t = [40]
theorem Q4.onOk {r : PR} {x y : XT} {j k : Nat} {f : XT → Nat → PR} (h : Q4 r x j) (hf : Q4 (f x j) y k) : Q4 (onOk r f) y k := by
  rcases h with rfl | h4
  · rw [onOk_yes]; exact hf
  · right
    unfold Go.Proofs.YthpjejfgoohhfaaGreatDoor.onOk
    rw [if_neg (by rw [h4]; decide)]
    exact h4
theorem Q4.lev {l : List Tk} {vw : Tree → Int} {n : Nat} {lev : Int} {o i j : Nat} {x : XT} (hl : lev ≠ 6) (h : Q4 ((ps l vw (n + 1)).J (lev + 1) o i) x j) (hj : jointF l j lev = none) : Q4 ((ps l vw (n + 2)).J lev o i) x j := by
  rw [ps_J, jF, if_neg hl]
  refine h.onOk ?_
  rw [ps_K, kF, hj]
  exact .inl rfl

theorem brackets {l : List Tk} {vw : Tree → Int} {a b : Tk} (ha : isOpenT a) (hb : isShut b) {N : Nat} {x : XT} (h : (ps l vw N).E 0 0 = (0, x, l.length)) {M : Nat} (hM : N + 10 ≤ M) : Q4 ((ps (a :: (l ++ [b])) vw M).E 0 0) x (l.length + 2) := by
  obtain ⟨l', hl'⟩ : ∃ l', l' = a :: (l ++ [b]) := ⟨_, rfl⟩
  rw [← hl']
  have H : Lon l l' b := by
    refine ⟨fun i hi => ?_, ?_, hb⟩
    · rw [hl', List.getElem?_cons_succ, List.getElem?_append_left hi]
    · rw [hl', List.getElem?_cons_succ, List.getElem?_append_right (Nat.le_refl _)]
      simp
  have h0 : l'[0]? = some a := by rw [hl']; rfl
  have hend : ∀ lev, jointF l' (l.length + 2) lev = none := fun lev => by
    unfold jointF
    rw [List.getElem?_eq_none (by rw [hl']; simp)]
  have sa : ∀ s, seesT l' 0 s = ([40] == s) := fun s => by
    unfold seesT isT
    rw [h0]
    simp only
    rw [ha.1, ha.2]
    simp
  obtain ⟨m, rfl⟩ : ∃ m, M = m + 10 := ⟨M - 10, by omega⟩
  have r := (far H N (vw := vw)).E m 0 0 (by omega) (Nat.zero_le _)
  rw [h] at r
  obtain ⟨_, r2⟩ := r rfl
  have e1 : Q4 ((ps l' vw m).E 1 1) x (l.length + 1) := r2
  have sb : seesT l' (l.length + 1) [41] = true := by
    unfold seesT isT
    rw [H.last]
    simp only
    rw [hb.1, hb.2]
    rfl
  have e2 : Q4 ((ps l' vw (m + 1)).P 1 0) x (l.length + 2) := by
    rw [ps_P, pF, h0]
    have hm : meantF a = none := by unfold meantF; rw [ha.1]; simp
    simp only [Option.bind_some, hm]
    rw [sa, if_pos (by rfl)]
    refine e1.onOk ?_
    rw [if_pos sb]
    exact .inl rfl
  have e3 : Q4 ((ps l' vw (m + 2)).S 1 0) x (l.length + 2) := by
    rw [ps_S, sF, sa, if_neg (by decide)]
    exact e2
  have e4 : Q4 ((ps l' vw (m + 3)).J 6 1 0) x (l.length + 2) := by
    rw [ps_J, jF, if_pos rfl]
    exact e3
  have e5 : Q4 ((ps l' vw (m + 4)).J 5 1 0) x (l.length + 2) := Q4.lev (by decide) e4 (hend _)
  have e6 : Q4 ((ps l' vw (m + 5)).J 4 1 0) x (l.length + 2) := Q4.lev (by decide) e5 (hend _)
  have e7 : Q4 ((ps l' vw (m + 6)).J 3 1 0) x (l.length + 2) := Q4.lev (by decide) e6 (hend _)
  have e8 : Q4 ((ps l' vw (m + 7)).J 2 1 0) x (l.length + 2) := Q4.lev (by decide) e7 (hend _)
  have e9 : Q4 ((ps l' vw (m + 8)).J 1 1 0) x (l.length + 2) := Q4.lev (by decide) e8 (hend _)
  have e10 : Q4 ((ps l' vw (m + 9)).C 1 0) x (l.length + 2) := by
    rw [ps_C, cF, sa, sa, sa, sa, if_neg (by decide), if_neg (by decide), if_neg (by decide), if_neg (by decide)]
    exact e9
  rw [ps_E, eF, if_neg (by decide)]
  exact e10
end Go.Proofs.YthpjejfgoohhfaaGreatDoor

/- Tokens in brackets (plain; its first part after stage 3's H1). -/
namespace Go.Proofs.YthpjejfgoohhfaaGreatDoor.Pp
open Go.Proofs.YthpjejfgoohhfaaGreatDoor

def shift (d : Nat) (t : Tk) : Tk := ⟨t.k, t.t, t.c, t.x, t.a + d⟩
theorem toks_shift (d : Nat) : ∀ (f F at' : Nat) (l : List UInt8) (acc pre : List Tk), l.length ≤ f → l.length ≤ F → (toksL f at' l acc).2.1 = 0 → toksL F (at' + d) l (pre ++ acc.map (shift d)) = (pre ++ (toksL f at' l acc).1.map (shift d), 0, 0)
  | f, 0, at', l, acc, pre, _, hF, h => by
    have : l = [] := List.eq_nil_of_length_eq_zero (by omega)
    subst this; rw [toksL_nil, toksL_nil]
  | f, F + 1, at', l, acc, pre, hf, hF, h => by
    by_cases hne : l = []
    · subst hne; rw [toksL_nil, toksL_nil]
    · have hl : 0 < l.length := List.length_pos_iff.2 hne
      obtain ⟨f', rfl⟩ : ∃ f', f = f' + 1 := ⟨f - 1, by omega⟩
      cases hbl : isBl (l.getD 0 0).toNat
      · by_cases h0 : (firstF l).e = 0
        · obtain ⟨b1, b2⟩ := (first_bd l hne).1 h0
          rw [toksL_go hne hbl h0] at h ⊢
          rw [toksL_go hne hbl h0]
          have := toks_shift d f' F (at' + (firstF l).n) (l.drop (firstF l).n) (acc ++ [⟨(firstF l).k, (firstF l).t, (firstF l).c, (firstF l).x, at'⟩]) pre (by rw [List.length_drop]; omega) (by rw [List.length_drop]; omega) h
          rw [← this]
          simp only [List.map_append, List.map_cons, List.map_nil, shift, List.append_assoc]
          congr 1
          omega
        · rw [toksL_no hne hbl h0] at h; exact absurd h h0
      · rw [toksL_bl hne hbl] at h ⊢
        rw [toksL_bl hne hbl]
        have := toks_shift d f' F (at' + 1) (l.drop 1) acc pre (by rw [List.length_drop]; omega) (by rw [List.length_drop]; omega) h
        rw [← this]
        congr 1
        omega

theorem toksF_valid {l : List UInt8} (h : (toksF l).2.1 = 0) : l.length ≤ 4000 ∧ Lib.validD l = true ∧ toksF l = toksL l.length 0 l [] := by
  unfold toksF at h ⊢
  split at h
  · exact absurd h (by decide : ¬ (4 : Int) = 0)
  · rename_i h1
    rw [if_neg h1]
    split at h
    · exact absurd h (by decide : ¬ (2 : Int) = 0)
    · rename_i h2
      rw [if_neg h2]
      have hle := leadL_le (gUtf l) l.length 0 l
      refine ⟨by omega, ?_, rfl⟩
      have := utf_valid l l.length 0 (by omega) (Nat.zero_le _)
      rw [List.drop_zero] at this
      exact this (by unfold utfL at h2; omega)
theorem valid_utf (L : List UInt8) : ∀ (f pos : Nat), L.length ≤ pos + f → pos ≤ L.length → Lib.validD (L.drop pos) = true → leadL (gUtf L) f pos (L.drop pos) = L.length
  | 0, pos, hf, hp, _ => by rw [leadL]; omega
  | f + 1, pos, hf, hp, h => by
    by_cases hne : L.drop pos = []
    · rw [hne, leadL_nil]
      have := congrArg List.length hne; rw [List.length_drop, List.length_nil] at this; omega
    · obtain ⟨v1, v2⟩ := val_step h hne
      have hw := Lib.decodeL_width (L.drop pos)
      have hl := Lib.decodeL_le (L.drop pos) hne
      have g : gUtf L pos (Lib.decodeL (L.drop pos)).1 = true := by
        unfold gUtf
        by_cases q : (Lib.decodeL (L.drop pos)).1 = 65533
        · have e := Lib.encode_decode (L.drop pos) hne v1
          rw [q, show Lib.encodeRune ((65533 : Nat) : Int) = [239, 191, 189] by decide +kernel] at e
          have : Lib.hasPrefix (L.drop pos) [239, 191, 189] = true := by
            unfold Lib.hasPrefix
            rw [List.isPrefixOf_iff_prefix, e]
            exact List.take_prefix _ _
          rw [this]; simp
        · simp [q]
      rw [leadL_go hne g, List.drop_drop] 
      rw [List.drop_drop] at v2
      rw [List.length_drop] at hl
      exact valid_utf L f _ (by omega) (by omega) v2

theorem first_open (r : List UInt8) : firstF (40 :: r) = ⟨4, [40], 0, 0, 1, 0, 0⟩ := by
  unfold firstF
  have h1 : leadL gDig (40 :: r).length 0 (40 :: r) = 0 := by
    rw [List.length_cons, leadL_stop (by simp) (by rw [dec_ascii (by decide)]; rfl)]
  have h2 : leadL gWord (40 :: r).length 0 (40 :: r) = 0 := by
    rw [List.length_cons, leadL_stop (by simp) (by
      rw [dec_ascii (by decide)]
      have : Lib.isLetterU ((40 : Nat) : Int) = false := by decide +kernel
      unfold gWord
      rw [show ((40 : UInt8).toNat, 1).1 = 40 from rfl, this, show isDgR ((40 : Nat) : Int) = false from rfl]
      simp)]
  rw [h1, h2, if_neg (by simp), if_neg (by simp), if_neg (by simp)]
  simp [signF, signsL, Lib.hasPrefix, List.isPrefixOf]
theorem first_shut (r : List UInt8) : firstF (41 :: r) = ⟨4, [41], 0, 0, 1, 0, 0⟩ := by
  unfold firstF
  have h1 : leadL gDig (41 :: r).length 0 (41 :: r) = 0 := by
    rw [List.length_cons, leadL_stop (by simp) (by rw [dec_ascii (by decide)]; rfl)]
  have h2 : leadL gWord (41 :: r).length 0 (41 :: r) = 0 := by
    rw [List.length_cons, leadL_stop (by simp) (by
      rw [dec_ascii (by decide)]
      have : Lib.isLetterU ((41 : Nat) : Int) = false := by decide +kernel
      unfold gWord
      rw [show ((41 : UInt8).toNat, 1).1 = 41 from rfl, this, show isDgR ((41 : Nat) : Int) = false from rfl]
      simp)]
  rw [h1, h2, if_neg (by simp), if_neg (by simp), if_neg (by simp)]
  simp [signF, signsL, Lib.hasPrefix, List.isPrefixOf]

set_option maxHeartbeats 4000000 in
/-- the tokens of a text in brackets, blanks at both ends -/
theorem toks_br {B : List UInt8} (h : (toksF B).2.1 = 0) (hl : B.length + 4 ≤ 4000) :
    toksF (32 :: 40 :: (B ++ [41, 10])) = (⟨4, [40], 0, 0, 1⟩ :: ((toksF B).1.map (shift 2) ++ [⟨4, [41], 0, 0, B.length + 2⟩]), 0, 0) := by
  obtain ⟨b1, b2, b3⟩ := toksF_valid h
  have hv : Lib.validD (32 :: 40 :: (B ++ [41, 10])) = true := by
    have v1 : Lib.validD [32, 40] = true := by decide +kernel
    have v2 : Lib.validD [41, 10] = true := by decide +kernel
    have v3 := val_app B.length B [41, 10] (Nat.le_refl _) b2 v2
    have v4 := val_app 2 [32, 40] (B ++ [41, 10]) (Nat.le_refl _) v1 v3
    have e : ([32, 40] : List UInt8) ++ (B ++ [41, 10]) = 32 :: 40 :: (B ++ [41, 10]) := by simp
    rw [e] at v4
    exact v4
  have hlen : (32 :: 40 :: (B ++ [41, 10])).length = B.length + 4 := by simp
  obtain ⟨L, hL⟩ : ∃ L, L = 32 :: 40 :: (B ++ [41, 10]) := ⟨_, rfl⟩
  have hu : leadL (gUtf L) L.length 0 L = L.length := by
    have := valid_utf L L.length 0 (by omega) (Nat.zero_le _) (by rw [List.drop_zero, hL]; exact hv)
    rwa [List.drop_zero] at this
  have hF : toksF L = toksL L.length 0 L [] := by
    unfold toksF utfL
    rw [hu, if_neg (by rw [hL, hlen]; omega), if_neg (Nat.lt_irrefl _)]
  rw [← hL, hF, hL, hlen]
  have s1 : toksL (B.length + 3 + 1) 0 (32 :: 40 :: (B ++ [41, 10])) [] = toksL (B.length + 3) 1 (40 :: (B ++ [41, 10])) [] := toksL_bl (l := 32 :: 40 :: (B ++ [41, 10])) (by simp) rfl
  have s2 : toksL (B.length + 2 + 1) 1 (40 :: (B ++ [41, 10])) [] = toksL (B.length + 2) 2 (B ++ [41, 10]) [⟨4, [40], 0, 0, 1⟩] := by
    have := toksL_go (f := B.length + 2) (at' := 1) (l := 40 :: (B ++ [41, 10])) (acc := []) (by simp) rfl (by rw [first_open])
    rw [first_open] at this
    exact this
  have h0 : (toksL B.length 0 B []).2.1 = 0 := by rw [← b3]; exact h
  have hs : toksL (B.length + 1) 2 B [⟨4, [40], 0, 0, 1⟩] = ([⟨4, [40], 0, 0, 1⟩] ++ (toksL B.length 0 B []).1.map (shift 2), 0, 0) := by
    have := toks_shift 2 B.length (B.length + 1) 0 B [] [⟨4, [40], 0, 0, 1⟩] (Nat.le_refl _) (by omega) h0
    simpa only [List.map_nil, List.append_nil, Nat.zero_add] using this
  obtain ⟨F', g1, g3, g2⟩ := toks_app [10] (B.length + 1) (B.length + 2) 2 B [⟨4, [40], 0, 0, 1⟩] (by omega) (by omega) b2 (by rw [hs])
  rw [hs] at g2
  obtain ⟨F2, rfl⟩ : ∃ k, F' = k + 2 := ⟨F' - 2, by omega⟩
  have s3 : ∀ acc : List Tk, toksL (F2 + 1 + 1) (2 + B.length) [41, 10] acc = toksL (F2 + 1) (2 + B.length + 1) [10] (acc ++ [⟨4, [41], 0, 0, 2 + B.length⟩]) := fun acc => by
    have := toksL_go (f := F2 + 1) (at' := 2 + B.length) (l := [41, 10]) (acc := acc) (by simp) rfl (by rw [first_shut])
    rw [first_shut] at this
    exact this
  have s4 : ∀ acc : List Tk, toksL (F2 + 1) (2 + B.length + 1) [10] acc = toksL F2 (2 + B.length + 1 + 1) [] acc := fun acc => toksL_bl (l := [10]) (by simp) rfl
  have e : toksL (B.length + 4) 0 (32 :: 40 :: (B ++ [41, 10])) [] = (([⟨4, [40], 0, 0, 1⟩] ++ (toksL B.length 0 B []).1.map (shift 2)) ++ [⟨4, [41], 0, 0, 2 + B.length⟩], 0, 0) := by
    refine s1.trans (s2.trans (g2.trans ((s3 _).trans ((s4 _).trans (toksL_nil _ _ _)))))
  rw [e, b3, Nat.add_comm 2]
  rfl

section
variable (l : List Tk) (d : Nat) (vw : Tree → Int) (p : Ps)
theorem sees_map : seesT (l.map (shift d)) = seesT l := by
  funext i s
  unfold seesT
  rw [List.getElem?_map]
  cases l[i]? <;> rfl
theorem joint_map : jointF (l.map (shift d)) = jointF l := by
  funext i lev
  unfold jointF
  rw [List.getElem?_map]
  cases l[i]? <;> rfl
theorem nm_map : nmF (l.map (shift d)) = nmF l := by
  funext i
  unfold nmF
  rw [List.getElem?_map]
  cases l[i]? <;> rfl
theorem mean_map (i : Nat) : ((l.map (shift d))[i]?).bind meantF = (l[i]?).bind meantF := by
  rw [List.getElem?_map]
  cases l[i]? <;> rfl
theorem ps_map (n : Nat) : ps (l.map (shift d)) vw n = ps l vw n := by
  induction n with
  | zero => rfl
  | succ n ih =>
    rw [ps, ps, ih]
    have e1 : cF (l.map (shift d)) (ps l vw n) = cF l (ps l vw n) := by funext o i; simp only [cF, lpF, sees_map, nm_map]
    have e2 : kF (l.map (shift d)) (ps l vw n) = kF l (ps l vw n) := by funext lev o x i; simp only [kF, joint_map]
    have e3 : sF (l.map (shift d)) (ps l vw n) = sF l (ps l vw n) := by funext o i; simp only [sF, sees_map]
    have e4 : pF (l.map (shift d)) vw (ps l vw n) = pF l vw (ps l vw n) := by funext o i; simp only [pF, sees_map, nm_map, mean_map]
    have e5 : lF (l.map (shift d)) (ps l vw n) = lF l (ps l vw n) := by funext c m o acc i; simp only [lF, sees_map]
    have e6 : bF (l.map (shift d)) (ps l vw n) = bF l (ps l vw n) := by funext ws o acc i; cases ws <;> simp only [bF, sees_map]
    rw [e1, e2, e3, e4, e5, e6]
end
end Go.Proofs.YthpjejfgoohhfaaGreatDoor.Pp
