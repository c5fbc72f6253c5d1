/- Walks: names' types in memory; wrongAsked; newTyper. -/
import Derived.Test.YtnegjbkbfgkkjaaGreatDoorG20
import Derived.Test.YtnegjbkbfgkkjaaGreatDoorG30
import Derived.Test.YtnegjbkbfgkkjaaGreatDoorG09
import Derived.Test.YtnegjbkbfgkkjaaGreatDoorG22
import Derived.Test.YtnegjbkbfgkkjaaGreatDoorG06
import Derived.Test.YtnegjbkbfgkkjaaGreatDoorG08
namespace Go.Proofs.YtnegjbkbfgkkjaaGreatDoor
open Go.RowKit Go.MapKept

/-- what lies that names and values are told by -/
structure GdT (B : Nat) (w : World) : Prop where
  lt : ∀ W, Below B w W → LT W
  sg : ∀ W, Below B w W → SG W
  tb : TabsIn B w
theorem GdT.keep {B : Nat} {w w' : World} (h : GdT B w) (hb : Below B w w') : GdT B w' := ⟨fun W k => h.lt W (hb.trans k), fun W k => h.sg W (hb.trans k), h.tb.below hb⟩
def valX (T : Tree) : Int := (wrongF T 0 1).1
theorem envX (B : Nat) : EnvX B (GdT B) nameB valX where
  keep := fun _ _ h hb => h.keep hb
  named := fun s w _ _ hG => named_any s w (hG.lt w (Below.refl _ _)) (hG.sg w (Below.refl _ _))
  val := fun T v w hM hB hG => logicWrong_any T v B w hB hM hG.tb

/-- the names' types in memory -/
def VMemL (B : Nat) (w : World) (l : List (ByteArray × TT)) (b off : Nat) : Prop := ∀ i v, l[i]? = some v → ∃ (k : Int) (a : Option Addr) (n cap : Nat), w.cell? ⟨b, off + i * 3, none⟩ = some (.string v.1) ∧ w.cell? ⟨b, off + i * 3 + 1, none⟩ = some (.int .i64 k) ∧ w.cell? ⟨b, off + i * 3 + 2, none⟩ = some (.slice a n cap) ∧ MemT B w v.2 #[.int .i64 k, .slice a n cap] ∧ v.1.size ≤ 9223372036854775807
theorem VMemL.below {B : Nat} {w w' : World} {l : List (ByteArray × TT)} {b off : Nat} (h : VMemL B w l b off) (hb : Below B w w') (hl : b < B) : VMemL B w' l b off := by
  intro i v hi
  obtain ⟨k, a, n, cap, h1, h2, h3, h4, h5⟩ := h i v hi
  have c : ∀ o, w'.cell? ⟨b, o, none⟩ = w.cell? ⟨b, o, none⟩ := fun o => hb.cell (p := ⟨b, o, none⟩) hl
  exact ⟨k, a, n, cap, by rw [c, h1], by rw [c, h2], by rw [c, h3], h4.below hb, h5⟩
/-- vars as a slice -/
structure VS (B : Nat) (w : World) (v : Value) (l : List (ByteArray × TT)) : Prop where
  len : l.length ≤ 9223372036854775807
  tell : ∃ a cap, v = .slice a l.length cap ∧ (l ≠ [] → ∃ b off, a = some ⟨b, off, none⟩ ∧ b < B ∧ VMemL B w l b off)
theorem VS.below {B : Nat} {w w' : World} {v : Value} {l : List (ByteArray × TT)} (h : VS B w v l) (hb : Below B w w') : VS B w' v l := by
  obtain ⟨h1, a, cap, h2, h3⟩ := h
  refine ⟨h1, a, cap, h2, fun hne => ?_⟩
  obtain ⟨b, off, ha, hl, hm⟩ := h3 hne
  exact ⟨b, off, ha, hl, hm.below hb hl⟩
theorem VS.mono {B B' : Nat} {w : World} {v : Value} {l : List (ByteArray × TT)} (h : VS B w v l) (hB : B ≤ B') : VS B' w v l := by
  obtain ⟨h1, a, cap, h2, h3⟩ := h
  refine ⟨h1, a, cap, h2, fun hne => ?_⟩
  obtain ⟨b, off, ha, hl, hm⟩ := h3 hne
  refine ⟨b, off, ha, Nat.lt_of_lt_of_le hl hB, fun i u hi => ?_⟩
  obtain ⟨k, a, n, cap, q1, q2, q3, q4, q5⟩ := hm i u hi
  exact ⟨k, a, n, cap, q1, q2, q3, q4.mono hB, q5⟩

/-- what is wrong with the names and their types -/
def vsF : List (ByteArray × TT) → Int
  | [] => 0
  | v :: vs => if nameB v.1 = false then 7 else if wrongTy 1 v.2 ≠ 0 then wrongTy 1 v.2 else vsF vs
def waF (x : XT) (l : List (ByteArray × TT)) : Int := if (xwF nameB valX x 0 1).1 ≠ 0 then (xwF nameB valX x 0 1).1 else if 50 < l.length then 5 else vsF l
theorem vsF_at {l : List (ByteArray × TT)} {m : Nat} {v : ByteArray × TT} (h : l[m]? = some v) : vsF (l.drop m) = if nameB v.1 = false then 7 else if wrongTy 1 v.2 ≠ 0 then wrongTy 1 v.2 else vsF (l.drop (m + 1)) := by rw [drop_at h, vsF]

set_option maxRecDepth 100000 in
set_option maxHeartbeats 8000000 in
theorem wrongAsked_any {B : Nat} (x : XT) (cs : Array Value) (l : List (ByteArray × TT)) (vv : Value) (w : World) (hx : XMem B w x cs) (hv : VS B w vv l) (hB : B ≤ w.heap.size) (hG : GdT B w) :
    Calls Tryz.prog 82 #[.agg cs, vv] w fun e w' => e = .returned (.int .i64 (waF x l)) ∧ Below B w w' := by
  obtain ⟨k, vk, vy, vc, vx, vt, va, vn, vp, s, xa, xn, xp, rfl⟩ := hx.form
  have hb := (Below.refl B w).alloc hB (.cells #[.int .i64 k, .int .i64 vk, .bool vy, .int .i64 vc, .int .i64 vx, .string vt, .slice va vn vp, .string s, .slice xa xn xp] 86)
  have C := hide (synWrong_any (envX B) x _ _ (XMem.below hb hx) (Nat.le_trans hB hb.size) (hG.keep hb))
  have HW : Hid (waF x l = if (xwF nameB valX x 0 1).1 ≠ 0 then (xwF nameB valX x 0 1).1 else if 50 < l.length then 5 else vsF l) := hide rfl
  generalize waF x l = R at *
  generalize (xwF nameB valX x 0 1).1 = xw at *
  have HB := hide hb
  have HG := hide hG
  obtain ⟨hlen, a, cap, rfl, hk⟩ := hv
  have HK := hide hk
  clear hb hx hG hk
  go_enter Tryz.func82, Tryz.ntmps82
  go_wp2_with fail
  with_reducible refine (unhide C).mono ?_
  rintro e w1 ⟨rfl, hb1⟩
  have HB1 := hide ((unhide HB).trans hb1)
  clear hb1 C HB
  by_cases h0 : xw = 0
  · subst h0
    rw [if_neg (by simp)] at HW
    by_cases h50 : 50 < l.length
    · rw [if_pos h50] at HW
      have h50' : (50 : Int) < (l.length : Int) := by omega
      go_wp2
      go_ret
      exact ⟨by rw [unhide HW]; rfl, unhide HB1⟩
    · rw [if_neg h50] at HW
      have h50' : ¬ (50 : Int) < (l.length : Int) := by omega
      go_wp2
      go_loopw [19] (fun i wr => ∃ m : Nat, m ≤ l.length ∧ i = .int .i64 (m : Int) ∧ Hid (R = vsF (l.drop m)) ∧ Hid (Below B w wr)) (fun i _ => l.length - (intOf i).toNat)
      case atStart => exact ⟨0, Nat.zero_le _, rfl, HW, HB1⟩
      case round =>
        obtain ⟨m, hml, rfl, H, HB2⟩ := hrel
        clear HW HB1
        by_cases hlt : m < l.length
        · have hi1 : (m : Int) < (l.length : Int) := by omega
          obtain ⟨u, hu⟩ : ∃ u, l[m]? = some u := ⟨_, List.getElem?_eq_getElem hlt⟩
          obtain ⟨b, off, rfl, hlB, hm⟩ := unhide HK (by intro e; subst e; simp at hlt)
          obtain ⟨tk, ta, tn, tcap, c0, c1, c2, hT, hsz⟩ := (hm.below (unhide HB2) hlB) m u hu
          obtain ⟨us, uT⟩ := u
          simp only at c0 hT hsz
          have E := hide ((unhide H).trans (vsF_at hu))
          have hbz : B ≤ wr.heap.size := Nat.le_trans hB (unhide HB2).size
          have hba := (Below.refl wr.heap.size wr).alloc (Nat.le_refl _) (.cells #[.string us, .int .i64 tk, .slice ta tn tcap] 117)
          have hbB := (unhide HB2).trans (hba.mono hbz)
          have CN := hide (named_any us _ ((unhide HG).lt _ hbB) ((unhide HG).sg _ hbB))
          have CW := hide (fun wx (hb : Below wr.heap.size wr wx) => tWrong_any uT #[.int .i64 tk, .slice ta tn tcap] wx ((hT.below (hb.mono hbz)).mono (Nat.le_trans hbz hb.size)))
          have X3 : Hid (∀ wx, Below (wr.heap.size + 1) (wr.alloc (.cells #[.string us, .int .i64 tk, .slice ta tn tcap] 117)) wx → wx.cell? ⟨wr.heap.size, 1, none⟩ = some (.int .i64 tk) ∧ wx.cell? ⟨wr.heap.size, 2, none⟩ = some (.slice ta tn tcap)) := hide (fun wx hb => by
            have c : ∀ o, wx.cell? ⟨wr.heap.size, o, none⟩ = (wr.alloc (.cells #[.string us, .int .i64 tk, .slice ta tn tcap] 117)).cell? ⟨wr.heap.size, o, none⟩ := fun o => hb.cell (p := ⟨wr.heap.size, o, none⟩) (by simp)
            exact ⟨by rw [c]; simp [go_sem], by rw [c]; simp [go_sem]⟩)
          simp only at E
          generalize nameB us = nb at *
          generalize wrongTy 1 uT = wt at *
          have HBA := hide hba
          have HBB := hide hbB
          clear hu hm H hba hbB hT
          go_wp2_with fail
          with_reducible refine (unhide CN).mono ?_
          rintro e w2 ⟨rfl, hb2⟩
          obtain ⟨d1, d2⟩ := unhide X3 w2 (by simpa using hb2)
          have HB3 := hide (below_via (unhide HBA) hb2)
          have HB4 := hide ((unhide HB2).trans ((unhide HB3).mono hbz))
          clear hb2 CN c0 c1 c2 HBA HBB
          cases nb
          · rw [if_pos rfl] at E
            go_wp2
            go_ret
            exact ⟨by rw [unhide E]; rfl, unhide HB4⟩
          rw [if_neg (by simp)] at E
          have CW2 := hide (unhide CW _ (unhide HB3))
          clear CW
          go_wp2_with fail
          with_reducible refine (unhide CW2).mono ?_
          rintro e w3 ⟨rfl, hb3⟩
          have HB5 := hide ((unhide HB4).trans (hb3.mono (Nat.le_trans hB (unhide HB4).size)))
          clear hb3 CW2 HB3 HB4 X3 d1 d2
          by_cases ht : wt = 0
          · subst ht
            rw [if_neg (by simp)] at E
            go_wp2
            go_roundw
            case rel => exact ⟨m + 1, by omega, by go_num, E, HB5⟩
            case measure => simp [intOf]; omega
          · rw [if_pos ht] at E
            have ht' : (wt != 0) = true := by simpa using ht
            clear ht
            go_wp2
            go_ret
            exact ⟨by rw [unhide E]; rfl, unhide HB5⟩
        · obtain rfl : m = l.length := by omega
          have E : Hid (R = 0) := hide ((unhide H).trans (by rw [List.drop_length, vsF]))
          clear H HK
          go_wp2
          go_ret
          exact ⟨by rw [unhide E]; rfl, unhide HB2⟩
  · rw [if_pos h0] at HW
    have h0' : (xw != 0) = true := by simpa using h0
    clear h0
    go_wp2
    go_ret
    exact ⟨by rw [unhide HW]; rfl, unhide HB1⟩
end Go.Proofs.YtnegjbkbfgkkjaaGreatDoor

/- Walks: newTyper. -/
namespace Go.Proofs.YtnegjbkbfgkkjaaGreatDoor
open Go.RowKit Go.MapKept

/-- names with right types, as types are written -/
def wrt (l : List (ByteArray × Sp)) : List (ByteArray × TT) := l.map fun v => (v.1, rt v.2)
theorem envA_at {E : Ev} : ∀ {l : List (ByteArray × Sp)} {m : Nat} {v : ByteArray × Sp}, l[m]? = some v → envA E (l.take (m + 1)) = (envA E (l.take m)).upd v.1 (some v.2)
  | [], m, v, h => by simp at h
  | u :: l, 0, v, h => by
    simp only [List.getElem?_cons_zero, Option.some.injEq] at h
    subst h
    simp [envA]
  | u :: l, m + 1, v, h => by
    have := envA_at (E := E.upd u.1 (some u.2)) (l := l) (m := m) (v := v) (by simpa using h)
    simpa [envA] using this

theorem makeMap_sh (n : Nat) (w : World) : (Instr.makeMap 181 (some (.int .i64 (n : Int)))).run Tryz.prog w = .ok (.map (some w.heap.size)) (w.alloc (.map #[] 0)) := by
  simp [Instr.makeMap, run_underlying Tryz.underlying181, go_sem]

set_option maxRecDepth 100000 in
set_option maxHeartbeats 8000000 in
theorem newTyper_any {B : Nat} (l : List (ByteArray × Sp)) (vv : Value) (w : World) (hv : VS B w vv (wrt l)) (hok : ∀ v ∈ l, v.2.ok) (hB : B ≤ w.heap.size) (hlen : l.length ≤ 50) (hw : 0 < w.heap.size) :
    Calls Tryz.prog 83 #[vv] w fun e w' => ∃ bt bf, e = .returned (.pointer (some ⟨bt, 0, none⟩)) ∧ TyS w.heap.size (w.heap.size + 1) bt w.heap.size bf (envOf l) 9 w' ∧ Below w.heap.size w w' := by
  obtain ⟨_, a, cap, rfl, hk⟩ := hv
  have hwl : (wrt l).length = l.length := by simp [wrt]
  rw [hwl] at *
  have h0 := makeMap_sh l.length w
  have N0 : Hid (MapF w.heap.size (envV (envA (fun _ => none) (l.take 0))) (w.alloc (.map #[] 0))) := hide (by
    rw [List.take_zero]
    exact MapF.new w)
  have B0 := hide ((Below.refl w.heap.size w).alloc (Nat.le_refl _) (.map #[] 0))
  have HK := hide hk
  have HO := hide hok
  clear hk hok hwl
  go_enter Tryz.func83, Tryz.ntmps83
  go_wp2
  go_loopw [11] (fun i wr => ∃ m : Nat, m ≤ l.length ∧ i = .int .i64 (m : Int) ∧ Hid (MapF w.heap.size (envV (envA (fun _ => none) (l.take m))) wr) ∧ Hid (Below w.heap.size w wr)) (fun i _ => l.length - (intOf i).toNat)
  case atStart => exact ⟨0, Nat.zero_le _, rfl, N0, B0⟩
  case round =>
    obtain ⟨m, hml, rfl, N1, B1⟩ := hrel
    clear N0 B0 h0
    by_cases hlt : m < l.length
    · have hi1 : (m : Int) < (l.length : Int) := by omega
      obtain ⟨u, hu⟩ : ∃ u, l[m]? = some u := ⟨_, List.getElem?_eq_getElem hlt⟩
      obtain ⟨b, off, rfl, hlB, hm⟩ := unhide HK (by intro e; unfold wrt at e; simp at e; subst e; simp at hlt)
      obtain ⟨tk, ta, tn, tcap, c0, c1, c2, hT, hsz⟩ := (hm.below ((unhide B1).mono hB) hlB) m (u.1, rt u.2) (by simp [wrt, hu])
      obtain ⟨us, ua⟩ := u
      simp only at c0 hT hsz
      have hao := unhide HO (us, ua) (List.mem_of_getElem? hu)
      simp only at hao
      have EU := hide (envA_at (E := fun _ => none) hu)
      have hbz : B ≤ wr.heap.size := Nat.le_trans hB (unhide B1).size
      obtain ⟨w2, hw2⟩ : ∃ w2, w2 = wr.alloc (.cells #[.string us, .int .i64 tk, .slice ta tn tcap] 117) := ⟨_, rfl⟩
      have hba : Below wr.heap.size wr w2 := by rw [hw2]; exact (Below.refl _ _).alloc (Nat.le_refl _) _
      have X3 : Hid (∀ wx, Below w2.heap.size w2 wx → wx.cell? ⟨wr.heap.size, 0, none⟩ = some (.string us) ∧ wx.cell? ⟨wr.heap.size, 1, none⟩ = some (.int .i64 tk) ∧ wx.cell? ⟨wr.heap.size, 2, none⟩ = some (.slice ta tn tcap)) := hide (fun wx hb => by
        have c : ∀ o, wx.cell? ⟨wr.heap.size, o, none⟩ = w2.cell? ⟨wr.heap.size, o, none⟩ := fun o => hb.cell (p := ⟨wr.heap.size, o, none⟩) (by rw [hw2]; simp)
        exact ⟨by rw [c, hw2]; simp [go_sem], by rw [c, hw2]; simp [go_sem], by rw [c, hw2]; simp [go_sem]⟩)
      have SH := hide (fun wx (hb : Below w2.heap.size w2 wx) => shapeOf_any ua #[.int .i64 tk, .slice ta tn tcap] wx (by have := hao.1; omega) (by have := hao.2; omega) ((hT.below ((below_via hba hb).mono hbz)).mono (Nat.le_trans hbz (below_via hba hb).size)))
      have PUT := hide (fun wx (hb : Below w2.heap.size w2 wx) => ((unhide N1).keep (below_via hba hb)).put Tryz.underlying181 Tryz.underlying9 us (sh ua))
      have HBA := hide hba
      obtain ⟨d0, d1, d2⟩ := unhide X3 w2 (Below.refl _ _)
      have lw2 : wr.heap.size < w2.heap.size := by rw [hw2]; simp
      clear hu hm hba hT hao
      go_upto_region 5 with fail
      rw [← hw2]
      clear hw2 c0 c1 c2
      go_region_with (go_at_call 86; refine (unhide SH _ (by repeat (first | assumption | exact Below.refl _ _ | apply Below.drew))).mono ?_; rintro e w3 ⟨rfl, hb⟩; replace hb : Below w2.heap.size w2 w3 := below_via (by repeat (first | assumption | exact Below.refl _ _ | apply Below.drew)) hb; obtain ⟨d0, d1, d2⟩ := unhide X3 w3 hb; obtain ⟨w4, hput, N4, Bt4⟩ := unhide PUT w3 hb)
      all_goals
        rw [show updV (envV (envA (fun _ => none) (l.take m))) us (some (sh ua)) = envV (envA (fun _ => none) (l.take (m + 1))) by rw [unhide EU]; exact envV_upd _ us (some ua)] at N4
        have hW := below_via (unhide B1) (below_via (unhide HBA) hb)
        have HN4 := hide N4
        have HB4 := hide (hW.trans (Bt4.below (Nat.le_refl _) hW.size))
        clear N4 Bt4 hW hb hput
        go_wp2
        go_roundw
        case rel => exact ⟨m + 1, by omega, by go_num, HN4, HB4⟩
        case measure => simp [intOf]; omega
    · obtain rfl : m = l.length := by omega
      rw [List.take_length] at N1
      have CF := hide (functions_tell (w.heap.size + 1) wr (by omega) (by have := (unhide N1).low; omega))
      have hbd : (envOf l).bd 9 := envA_bd l _ (fun s a h => by cases h) (fun v hv => (unhide HO v hv).1)
      have HBD := hide hbd
      clear hbd HK HO
      go_wp2_with fail
      with_reducible refine (unhide CF).mono ?_
      rintro e w3 ⟨bf, rfl, hF, hb3⟩
      have B3 := below_via (unhide B1) hb3
      have ba := (Below.refl w3.heap.size w3).alloc (Nat.le_refl _) (.cells #[.map (some w.heap.size), .map (some bf)] 185)
      have T3 : TyS w.heap.size (w.heap.size + 1) w3.heap.size w.heap.size bf (envOf l) 9 (w3.alloc (.cells #[.map (some w.heap.size), .map (some bf)] 185)) :=
        ⟨Nat.le_refl _, by omega, by have := ((unhide N1).keep hb3).low; omega, Bx2.new w3 _ _ _, ((unhide N1).keep hb3).keep ba, hF.keep (by omega) ba, unhide HBD⟩
      have HT3 := hide T3
      have HB3 := hide (below_via B3 ba)
      clear hF hb3 B3 ba T3 N1 B1 CF HBD
      go_wp2
      go_ret
      exact ⟨_, _, rfl, unhide HT3, unhide HB3⟩
end Go.Proofs.YtnegjbkbfgkkjaaGreatDoor

/- Walks: Type of any expression. -/
namespace Go.Proofs.YtnegjbkbfgkkjaaGreatDoor
open Go.RowKit Go.MapKept

/-- what names stand for is of no kind that is a list -/
def Ev.kk (E : Ev) : Prop := ∀ s a, E s = some a → a.k ≠ 5
theorem Ev.kk.upd {E : Ev} (h : E.kk) (s : ByteArray) (a : Option Sp) (ha : ∀ b, a = some b → b.k ≠ 5) : (E.upd s a).kk := by
  intro x b
  unfold Ev.upd
  split
  · exact ha b
  · exact h x b
theorem join_kk {a b : Sp} (ha : a.k ≠ 5) (hb : b.k ≠ 5) : (a.join b).k ≠ 5 := by
  unfold Sp.join
  split
  · exact hb
  · split
    · exact ha
    · show (6 : Int) ≠ 5; decide
theorem joinA_kk : ∀ (l : List Sp) (a : Sp), a.k ≠ 5 → (∀ b ∈ l, b.k ≠ 5) → (joinA a l).k ≠ 5
  | [], _, ha, _ => ha
  | b :: l, _, ha, h => joinA_kk l _ (join_kk ha (h b (List.mem_cons_self ..))) (fun c hc => h c (List.mem_cons_of_mem _ hc))
theorem elem_kk {a : Sp} (h : a.k ≠ 5) : a.elem.k ≠ 5 := by
  unfold Sp.elem
  split <;> exact h
theorem getD_kk {l : List Sp} (h : ∀ a ∈ l, a.k ≠ 5) (i : Nat) : (l.getD i ⟨0, 0⟩).k ≠ 5 := by
  rw [List.getD_eq_getElem?_getD]
  cases hi : l[i]? with
  | none => show (0 : Int) ≠ 5; decide
  | some a => exact h a (List.mem_of_getElem? hi)
theorem ofNodeF_kk {l : List Sp} (h : ∀ a ∈ l, a.k ≠ 5) (k : Int) : (ofNodeF k l).1.k ≠ 5 := by
  unfold ofNodeF
  split
  · unfold addF
    split
    · show (3 : Int) ≠ 5; decide
    · split
      · show (4 : Int) ≠ 5; decide
      · show (6 : Int) ≠ 5; decide
  split
  · show (3 : Int) ≠ 5; decide
  split
  · show (2 : Int) ≠ 5; decide
  split
  · show (2 : Int) ≠ 5; decide
  split
  · show (2 : Int) ≠ 5; decide
  split
  · show (2 : Int) ≠ 5; decide
  split
  · exact join_kk (getD_kk h 1) (getD_kk h 2)
  split
  · exact joinA_kk l ⟨0, 1⟩ (by decide) h
  · show (0 : Int) ≠ 5; decide
theorem fnTab_kk : ∀ e ∈ fnTab, ∀ k, e.2.2 = .always k → k ≠ 5 := by
  intro e he k hk
  simp only [fnTab, List.mem_cons, List.not_mem_nil, or_false] at he
  rcases he with rfl | rfl | rfl | rfl | rfl | rfl | rfl | rfl | rfl | rfl | rfl | rfl | rfl | rfl | rfl | rfl | rfl | rfl | rfl | rfl | rfl | rfl <;> simp at hk <;> omega
theorem tellF_kk {l : List Sp} (h : ∀ a ∈ l, a.k ≠ 5) (t : Tl) (ht : ∀ k, t = .always k → k ≠ 5) : (tellF t l).1.k ≠ 5 := by
  cases t with
  | always k => exact ht k rfl
  | elem => exact elem_kk (getD_kk h 0)
  | elems => exact joinA_kk (l.map Sp.elem) ⟨0, 1⟩ (by decide) (fun b hb => by
      obtain ⟨a, ha, rfl⟩ := List.mem_map.1 hb
      exact elem_kk (h a ha))
  | sum => show (3 : Int) ≠ 5; decide
  | between => show (2 : Int) ≠ 5; decide
theorem orW_kk {p : Sp × Bool} (h : p.1.k ≠ 5) : (orW p).2.k ≠ 5 := by
  unfold orW
  split
  · exact h
  · show (0 : Int) ≠ 5; decide
mutual
theorem tyF_kk : ∀ (x : XT) (E : Ev), E.kk → (tyF x E).2.k ≠ 5
  | .mk k v s ks, E, hE => by
    rw [tyF]
    split
    · show (litTy v.kind).k ≠ 5
      unfold litTy
      split
      · decide
      split
      · decide
      split <;> decide
    split
    · cases he : E s with
      | none => show (0 : Int) ≠ 5; decide
      | some a => exact hE s a he
    have hL := tyL_kk ks E hE
    split
    · unfold callF
      cases hf : fnIn fnTab s.data.toList with
      | none => show (0 : Int) ≠ 5; decide
      | some q =>
        simp only
        split
        · show (0 : Int) ≠ 5; decide
        · split
          · show (0 : Int) ≠ 5; decide
          · refine orW_kk ?_
            unfold ofF
            split
            · obtain ⟨e, he, rfl⟩ := fnIn_mem hf
              exact tellF_kk hL e.2.2 (fun k hk => fnTab_kk e he k hk)
            · show (0 : Int) ≠ 5; decide
    split
    · exact tyE_kk k s ks E hE
    · unfold nodeT
      split
      · show (0 : Int) ≠ 5; decide
      · exact orW_kk (ofNodeF_kk hL k)
theorem tyL_kk : ∀ (ks : List XT) (E : Ev), E.kk → ∀ a ∈ (tyL ks E).2, a.k ≠ 5
  | [], E, _ => by rw [tyL]; simp
  | x :: xs, E, hE => by
    rw [tyL]
    split
    · simp
    split
    · simp
    · intro a ha
      rcases List.mem_cons.1 ha with rfl | ha
      · exact tyF_kk x E hE
      · exact tyL_kk xs E hE a ha
theorem tyE_kk : ∀ (k : Int) (s : ByteArray) (ks : List XT) (E : Ev), E.kk → (tyE k s ks E).2.k ≠ 5
  | k, s, [], E, _ => by rw [tyE]; show (0 : Int) ≠ 5; decide
  | k, s, x :: xs, E, hE => by
    rw [tyE]
    split
    · show (0 : Int) ≠ 5; decide
    split
    · show (0 : Int) ≠ 5; decide
    · exact tyE2_kk k xs _ (hE.upd _ _ (fun b hb => by cases hb; exact elem_kk (tyF_kk x E hE)))
theorem tyE2_kk : ∀ (k : Int) (ks : List XT) (E : Ev), E.kk → (tyE2 k ks E).2.k ≠ 5
  | k, [], E, _ => by rw [tyE2]; show (0 : Int) ≠ 5; decide
  | k, y :: ys, E, hE => by
    rw [tyE2]
    unfold lastF
    split
    · show (0 : Int) ≠ 5; decide
    split
    · exact tyF_kk y E hE
    · exact orW_kk (by show (2 : Int) ≠ 5; decide)
end
theorem envA_kk : ∀ (l : List (ByteArray × Sp)) (E : Ev), E.kk → (∀ v ∈ l, v.2.k ≠ 5) → (envA E l).kk
  | [], _, h, _ => h
  | v :: vs, _, h, hl => envA_kk vs _ (h.upd _ _ (fun b hb => by cases hb; exact hl v (List.mem_cons_self ..))) (fun u hu => hl u (List.mem_cons_of_mem _ hu))

/-- the shape of a type -/
def spN : TT → Sp
  | .mk k ks => match ks with
    | [e] => if k = 5 then (spN e).listed else ⟨0, k⟩
    | _ => ⟨0, k⟩
theorem spN_rtN : ∀ (n : Nat) (k : Int), k ≠ 5 → spN (rtN n k) = ⟨n, k⟩
  | 0, k, _ => by rw [rtN, spN]; simp
  | n + 1, k, h => by rw [rtN, spN, if_pos rfl, spN_rtN n k h]; rfl
def spv (l : List (ByteArray × TT)) : List (ByteArray × Sp) := l.map fun v => (v.1, spN v.2)
theorem vsF_right : ∀ (l : List (ByteArray × TT)), vsF l = 0 → wrt (spv l) = l ∧ ∀ v ∈ spv l, v.2.ok
  | [], _ => ⟨rfl, fun v h => by cases h⟩
  | v :: vs, h => by
    rw [vsF] at h
    split at h
    · cases h
    split at h
    · rename_i g; exact absurd h g
    · rename_i g1 g2
      obtain ⟨a, ha, he⟩ := right_sp (T := v.2) (by simpa using g2)
      obtain ⟨q1, q2⟩ := vsF_right vs h
      have e1 : spN v.2 = a := by
        rw [he]
        show spN (rtN a.n a.k) = a
        rw [spN_rtN _ _ (by have := ha.2; omega)]
      constructor
      · show (v.1, rt (spN v.2)) :: wrt (spv vs) = v :: vs
        rw [e1, q1, ← he]
      · intro u hu
        rcases List.mem_cons.1 hu with rfl | hu
        · show (spN v.2).ok
          rw [e1]; exact ha
        · exact q2 u hu
/-- what Type tells -/
def tpF (x : XT) (l : List (ByteArray × TT)) : Int × Sp := if waF x l ≠ 0 then (waF x l, ⟨0, 0⟩) else tyF x (envOf (spv l))
theorem waF_right {x : XT} {l : List (ByteArray × TT)} (h : waF x l = 0) : (x.ok ∧ x.size ≤ 1000) ∧ l.length ≤ 50 ∧ wrt (spv l) = l ∧ ∀ v ∈ spv l, v.2.ok := by
  unfold waF at h
  split at h
  · rename_i g; exact absurd h g
  · rename_i g
    have g' : (xwF nameB valX x 0 1).1 = 0 := by simpa using g
    obtain ⟨h1, h2, h3⟩ := (xwF_bd (nB := nameB) (vW := valX) x 0 1 (by omega)).2 g'
    split at h
    · cases h
    · rename_i g2
      exact ⟨⟨h2, by omega⟩, by omega, vsF_right l h⟩
theorem GdT.up {B B' : Nat} {w w' : World} (h : GdT B w) (hb : Below B w w') (hB : B ≤ B') : GdT B' w' :=
  ⟨fun W k => h.lt W (hb.trans (k.mono hB)), fun W k => h.sg W (hb.trans (k.mono hB)), (h.tb.below hb).1, Nat.lt_of_lt_of_le h.tb.2.1 hB, Nat.lt_of_lt_of_le h.tb.2.2 hB⟩

set_option maxRecDepth 100000 in
set_option maxHeartbeats 8000000 in
theorem type_any (x : XT) (cs : Array Value) (l : List (ByteArray × TT)) (vv : Value) (w : World) (hx : XMem w.heap.size w x cs) (hv : VS w.heap.size w vv l) (hG : GdT w.heap.size w) :
    Calls Tryz.prog 66 #[.agg cs, vv] w fun e w' => ∃ k a n cap, e = .returned (.tuple #[.agg #[.int .i64 k, .slice a n cap], .int .i64 (tpF x l).1]) ∧ ((tpF x l).1 = 0 → MemTP (fun q => w.heap.size ≤ q ∧ q < w'.heap.size) w' (rt (tpF x l).2) #[.int .i64 k, .slice a n cap]) ∧ Below w.heap.size w w' := by
  obtain ⟨k, vk, vy, vc, vx, vt, va, vn, vp, s, xa, xn, xp, rfl⟩ := hx.form
  obtain ⟨w0, hw0⟩ : ∃ w0, w0 = (w.alloc (.cells #[.int .i64 k, .int .i64 vk, .bool vy, .int .i64 vc, .int .i64 vx, .string vt, .slice va vn vp, .string s, .slice xa xn xp] 86)).alloc (.cells #[.int .i64 0, .slice none 0 0] 114) := ⟨_, rfl⟩
  have B0 : Below w.heap.size w w0 := by rw [hw0]; exact below2 w _ _
  have X9 : V9 w0 w.heap.size (.int .i64 k) (.int .i64 vk) (.bool vy) (.int .i64 vc) (.int .i64 vx) (.string vt) (.slice va vn vp) (.string s) (.slice xa xn xp) := by
    rw [hw0]; exact (V9.new w 86 _ _ _ _ _ _ _ _ _).keep ((Below.refl _ _).alloc (Nat.le_refl _) _) (by simp)
  have Y0 : Bx2 w0 (w.heap.size + 1) (.int .i64 0) (.slice none 0 0) := by
    rw [hw0]
    have := Bx2.new (w.alloc (.cells #[.int .i64 k, .int .i64 vk, .bool vy, .int .i64 vc, .int .i64 vx, .string vt, .slice va vn vp, .string s, .slice xa xn xp] 86)) 114 (.int .i64 0) (.slice none 0 0)
    simpa using this
  have l0 : w.heap.size + 1 < w0.heap.size := Y0.low
  have x0 := XMem.mono (Nat.le_of_lt (Nat.lt_of_le_of_lt (Nat.le_succ _) l0)) (XMem.below B0 hx)
  have v0 := (hv.below B0).mono (Nat.le_of_lt (Nat.lt_of_le_of_lt (Nat.le_succ _) l0))
  have CA := hide (wrongAsked_any x _ l vv w0 x0 v0 (Nat.le_refl _) (hG.up B0 (Nat.le_of_lt (Nat.lt_of_le_of_lt (Nat.le_succ _) l0))))
  have HP : Hid (tpF x l = if waF x l ≠ 0 then (waF x l, ⟨0, 0⟩) else tyF x (envOf (spv l))) := hide rfl
  generalize tpF x l = R at *
  have HR := hide (fun h => waF_right (x := x) (l := l) h)
  generalize waF x l = wa at *
  obtain ⟨u0, u1, u2, u3, u4, u5, u6, u7, u8⟩ := X9.tell
  have HX9 := hide X9
  have HY0 := hide Y0
  have HB0 := hide B0
  have Hx0 := hide x0
  have Hv0 := hide v0
  obtain ⟨va', vcap', hvv⟩ : ∃ a cap, vv = .slice a l.length cap := by obtain ⟨_, a, cap, h, _⟩ := hv; exact ⟨a, cap, h⟩
  subst hvv
  clear X9 Y0 B0 x0 v0 hx hv hG
  go_enter Tryz.func66, Tryz.ntmps66
  go_upto_region 1 with fail
  rw [← hw0]
  clear hw0
  go_wp2_with fail
  with_reducible refine (unhide CA).mono ?_
  rintro e w1 ⟨rfl, hb1⟩
  have lw1 : w0.heap.size ≤ w1.heap.size := hb1.size
  have HB1 := hide hb1
  clear CA hb1 u0 u1 u2 u3 u4 u5 u6 u7 u8
  by_cases h0 : wa = 0
  · subst h0
    rw [if_neg (by simp)] at HP
    obtain ⟨⟨hxo, hxs⟩, hl50, hwr, hvo⟩ := unhide HR rfl
    have v1 := ((unhide Hv0).below (unhide HB1)).mono lw1
    have CT := newTyper_any (B := w1.heap.size) (spv l) _ w1 (by rw [hwr]; exact v1) hvo (Nat.le_refl _) (by simp [spv]; exact hl50) (by omega)
    have HCT := hide CT
    have hE : (envOf (spv l)).kk := envA_kk (spv l) _ (fun s a h => by cases h) (fun v hv => by have := (hvo v hv).2; omega)
    have hK := tyF_kk x _ hE
    clear CT v1 hvo hwr HR hE
    go_wp2_with fail
    with_reducible refine (unhide HCT).mono ?_
    rintro e w2 ⟨bt, bf, rfl, hT, hb2⟩
    have lw2 : w1.heap.size ≤ w2.heap.size := hb2.size
    have CX := hide (typed_all x w1.heap.size (w1.heap.size + 1) bt w1.heap.size bf (envOf (spv l)) 9 w2 _ (XMem.below hb2 (XMem.mono lw1 (XMem.below (unhide HB1) (unhide Hx0)))) hxo hT (by omega))
    have hn := tyF_bd x _ 9 hT.bd
    have Z9 := ((unhide HX9).keep (unhide HB1) (unhide HX9).low).keep hb2 (Nat.lt_of_lt_of_le (unhide HX9).low lw1)
    obtain ⟨u0, u1, u2, u3, u4, u5, u6, u7, u8⟩ := Z9.tell
    have HB2 := hide hb2
    generalize tyF x (envOf (spv l)) = r at *
    obtain ⟨r1, r2⟩ := r
    simp only at CX hn hK
    clear hT hb2 HCT Z9 Hx0 Hv0 HX9
    go_wp2_with fail
    with_reducible refine (unhide CX).mono ?_
    rintro e w3 ⟨rfl, _, hbt⟩
    have hb3 : Below w1.heap.size w2 w3 := hbt.below (Nat.le_refl _) lw2
    have lw3 : w2.heap.size ≤ w3.heap.size := hbt.size
    have HB3 := hide ((unhide HB0).trans (((unhide HB1).trans (((unhide HB2).trans hb3).mono lw1)).mono (by omega)))
    have HY3 := hide ((((unhide HY0).keep (unhide HB1) (unhide HY0).low).keep ((unhide HB2).trans hb3) (by omega)))
    clear hbt hb3 CX u0 u1 u2 u3 u4 u5 u6 u7 u8 HB0 HB1 HB2 HY0
    obtain ⟨w4, hw4⟩ : ∃ w4, w4 = w3.alloc (.cells #[.int .i64 (r2.n : Int), .int .i64 r2.k] 158) := ⟨_, rfl⟩
    have ba : Below w3.heap.size w3 w4 := by rw [hw4]; exact (Below.refl _ _).alloc (Nat.le_refl _) _
    have X8 : Bx2 w4 w3.heap.size (.int .i64 (r2.n : Int)) (.int .i64 r2.k) := by rw [hw4]; exact Bx2.new w3 _ _ _
    have Y4 := (unhide HY3).keep ba (unhide HY3).low
    have HB4 := hide (below_via (unhide HB3) ba)
    have HX8 := hide X8
    have HY4 := hide Y4
    have lw4 : w3.heap.size < w4.heap.size := X8.low
    clear ba X8 Y4 HB3 HY3
    go_upto_region 6 with fail
    rw [← hw4]
    clear hw4
    by_cases hr : r1 = 0
    · subst hr
      have CW := hide (fun wx => written_any r2 wx (by omega))
      have f0 := (unhide HX8).at0
      have f1 := (unhide HX8).at1
      go_wp2_with fail
      with_reducible refine (unhide CW _).mono ?_
      rintro e w5 ⟨v, rfl, hM, hb5⟩
      have hform : ∃ (kk : Int) (aa : Option Addr) (nn cc : Nat), v = #[.int .i64 kk, .slice aa nn cc] := by
        have : ∀ T : TT, MemTP (fun q => w4.heap.size ≤ q ∧ q < w5.heap.size) w5 T v → ∃ (kk : Int) (aa : Option Addr) (nn cc : Nat), v = #[.int .i64 kk, .slice aa nn cc] := fun T h => by
          cases T with
          | mk q ks => obtain ⟨_, a, c, hv⟩ := h.any; exact ⟨_, _, _, _, hv⟩
        exact this _ hM
      obtain ⟨kk, aa, nn, cc, rfl⟩ := hform
      have Y5 := (unhide HY4).keep hb5 (unhide HY4).low
      have p5 : But (w.heap.size + 1) w5 (put2 w5 (w.heap.size + 1) (.int .i64 kk) (.slice aa nn cc)) := But.set.trans But.set
      have hM2 : MemTP (fun q => w.heap.size ≤ q ∧ q < (put2 w5 (w.heap.size + 1) (.int .i64 kk) (.slice aa nn cc)).heap.size) (put2 w5 (w.heap.size + 1) (.int .i64 kk) (.slice aa nn cc)) (rt r2) #[.int .i64 kk, .slice aa nn cc] :=
        MemTP.keep (fun b hb => ⟨⟨by omega, Nat.lt_of_lt_of_le hb.2 p5.size⟩, fun o => p5.cell (q := ⟨b, o, none⟩) hb.2 (by show b ≠ w.heap.size + 1; omega)⟩) hM
      have R5 := Y5.put (.int .i64 kk) (.slice aa nn cc)
      have r0 := hide R5.at0
      have r1' := hide R5.at1
      have HM := hide hM2
      have hB5 := below_via (unhide HB4) hb5
      have HF := hide (hB5.trans (p5.below (by omega) hB5.size))
      have y0 := Y5.at0
      have y1 := Y5.at1
      have t0 := Y5.th0
      have t1 := Y5.th1
      have lx := Y5.low
      clear hM hb5 Y5 p5 hM2 R5 hB5 HX8 HY4 HB4 CW f0 f1
      go_wp2
      refine bodyPost_ret (v := .tuple #[.agg #[.int .i64 kk, .slice aa nn cc], .int .i64 0]) (by simp [results, Tryz.results66, go_sem, unhide r0, unhide r1']) rfl ⟨kk, aa, nn, cc, by rw [unhide HP], fun _ => by rw [unhide HP]; exact unhide HM, unhide HF⟩
    · have hr' : (r1 != 0) = true := by simpa using hr
      have Y5 := unhide HY4
      have p5 : But (w.heap.size + 1) w4 (put2 w4 (w.heap.size + 1) (.int .i64 0) (.slice none 0 0)) := But.set.trans But.set
      have R5 := Y5.put (.int .i64 0) (.slice none 0 0)
      have r0 := hide R5.at0
      have r1' := hide R5.at1
      have HF := hide ((unhide HB4).trans (p5.below (by omega) (unhide HB4).size))
      have y0 := Y5.at0
      have y1 := Y5.at1
      have t0 := Y5.th0
      have t1 := Y5.th1
      have lx := Y5.low
      have HR2 := hide hr
      clear Y5 p5 R5 HX8 HY4 HB4 hr
      go_wp2
      refine bodyPost_ret (v := .tuple #[.agg #[.int .i64 0, .slice none 0 0], .int .i64 r1]) (by simp [results, Tryz.results66, go_sem, unhide r0, unhide r1']) rfl ⟨0, none, 0, 0, by rw [unhide HP], fun h => by rw [unhide HP] at h; exact absurd h (unhide HR2), unhide HF⟩
  · rw [if_pos h0] at HP
    have h0' : (wa != 0) = true := by simpa using h0
    have Y5 := (unhide HY0).keep (unhide HB1) (unhide HY0).low
    have p5 : But (w.heap.size + 1) w1 (put2 w1 (w.heap.size + 1) (.int .i64 0) (.slice none 0 0)) := But.set.trans But.set
    have R5 := Y5.put (.int .i64 0) (.slice none 0 0)
    have r0 := hide R5.at0
    have r1' := hide R5.at1
    have hB5 : Below w.heap.size w w1 := below_via (unhide HB0) (unhide HB1)
    have HF := hide (hB5.trans (p5.below (by omega) hB5.size))
    have y0 := Y5.at0
    have y1 := Y5.at1
    have t0 := Y5.th0
    have t1 := Y5.th1
    have lx := Y5.low
    have HR2 := hide h0
    clear Y5 p5 R5 hB5 HR HY0 HX9 HB0 HB1 Hx0 Hv0 h0
    go_wp2
    refine bodyPost_ret (v := .tuple #[.agg #[.int .i64 0, .slice none 0 0], .int .i64 wa]) (by simp [results, Tryz.results66, go_sem, unhide r0, unhide r1']) rfl ⟨0, none, 0, 0, by rw [unhide HP], fun h => by rw [unhide HP] at h; exact absurd h (unhide HR2), unhide HF⟩
end Go.Proofs.YtnegjbkbfgkkjaaGreatDoor

/- Tables in plain words: what is wrong with one; how one lies in memory. -/
namespace Go.Proofs.YtnegjbkbfgkkjaaGreatDoor
open Go.RowKit Go.MapKept

/-- rows of n cells behind a slice -/
structure Ls {α : Type} (B : Nat) (w : World) (n : Nat) (R : α → Array Value → Prop) (l : List α) (v : Value) : Prop where
  len : l.length ≤ 9223372036854775807
  tell : ∃ a cap, v = .slice a l.length cap ∧ (l.length ≤ cap ∧ cap ≤ 9223372036854775807) ∧ (l ≠ [] → ∃ b off, a = some ⟨b, off, none⟩ ∧ b < B ∧ ∀ i x, l[i]? = some x → ∃ cs, cs.size = n ∧ R x cs ∧ ∀ j u, cs[j]? = some u → w.cell? ⟨b, off + i * n + j, none⟩ = some u)
theorem Ls.below {α : Type} {B : Nat} {w w' : World} {n : Nat} {R R' : α → Array Value → Prop} {l : List α} {v : Value} (h : Ls B w n R l v) (hb : Below B w w') (hR : ∀ x cs, R x cs → R' x cs) : Ls B w' n R' l v := by
  obtain ⟨a, cap, e, hlc, hk⟩ := h.tell
  refine ⟨h.len, a, cap, e, hlc, fun hne => ?_⟩
  obtain ⟨b, off, ea, hl, hm⟩ := hk hne
  refine ⟨b, off, ea, hl, fun i x hx => ?_⟩
  obtain ⟨cs, hs, hr, hc⟩ := hm i x hx
  exact ⟨cs, hs, hR x cs hr, fun j u hu => (hb.cell (p := ⟨b, off + i * n + j, none⟩) hl).trans (hc j u hu)⟩
theorem Ls.mono {α : Type} {B B' : Nat} {w : World} {n : Nat} {R R' : α → Array Value → Prop} {l : List α} {v : Value} (h : Ls B w n R l v) (hB : B ≤ B') (hR : ∀ x cs, R x cs → R' x cs) : Ls B' w n R' l v := by
  obtain ⟨a, cap, e, hlc, hk⟩ := h.tell
  refine ⟨h.len, a, cap, e, hlc, fun hne => ?_⟩
  obtain ⟨b, off, ea, hl, hm⟩ := hk hne
  refine ⟨b, off, ea, Nat.lt_of_lt_of_le hl hB, fun i x hx => ?_⟩
  obtain ⟨cs, hs, hr, hc⟩ := hm i x hx
  exact ⟨cs, hs, hR x cs hr, hc⟩

/-- a column, a rule, a table -/
structure CoT where
  name : ByteArray
  kind : Int
  ord : List Tree
structure RuT where
  tests : List TS
  outs : List XT
structure TbT where
  name : ByteArray
  pol : Int
  ins : List CoT
  outs : List CoT
  rules : List RuT
def CM (B : Nat) (w : World) (c : CoT) (cs : Array Value) : Prop := ∃ o, cs = #[.string c.name, .int .i64 c.kind, o] ∧ Ls B w 6 (Mem B w) c.ord o
def RM (B : Nat) (w : World) (r : RuT) (cs : Array Value) : Prop := ∃ t o, cs = #[t, o] ∧ Ls B w 16 (MemS B w) r.tests t ∧ Ls B w 9 (XMem B w) r.outs o
def TbM (B : Nat) (w : World) (t : TbT) (cs : Array Value) : Prop := ∃ i o r, cs = #[.string t.name, .int .i64 t.pol, i, o, r] ∧ Ls B w 3 (CM B w) t.ins i ∧ Ls B w 3 (CM B w) t.outs o ∧ Ls B w 2 (RM B w) t.rules r
theorem CM.below {B : Nat} {w w' : World} (hb : Below B w w') {c : CoT} {cs : Array Value} (h : CM B w c cs) : CM B w' c cs := by
  obtain ⟨o, e, h⟩ := h
  exact ⟨o, e, h.below hb fun x cs => Mem.below hb⟩
theorem RM.below {B : Nat} {w w' : World} (hb : Below B w w') {r : RuT} {cs : Array Value} (h : RM B w r cs) : RM B w' r cs := by
  obtain ⟨t, o, e, h1, h2⟩ := h
  exact ⟨t, o, e, h1.below hb fun x cs => MemS.below hb, h2.below hb fun x cs => XMem.below hb⟩
theorem TbM.below {B : Nat} {w w' : World} (hb : Below B w w') {t : TbT} {cs : Array Value} (h : TbM B w t cs) : TbM B w' t cs := by
  obtain ⟨i, o, r, e, h1, h2, h3⟩ := h
  exact ⟨i, o, r, e, h1.below hb fun x cs => CM.below hb, h2.below hb fun x cs => CM.below hb, h3.below hb fun x cs => RM.below hb⟩
theorem CM.mono {B B' : Nat} {w : World} (hb : B ≤ B') {c : CoT} {cs : Array Value} (h : CM B w c cs) : CM B' w c cs := by
  obtain ⟨o, e, h⟩ := h
  exact ⟨o, e, h.mono hb fun x cs => Mem.mono hb⟩
theorem RM.mono {B B' : Nat} {w : World} (hb : B ≤ B') {r : RuT} {cs : Array Value} (h : RM B w r cs) : RM B' w r cs := by
  obtain ⟨t, o, e, h1, h2⟩ := h
  exact ⟨t, o, e, h1.mono hb fun x cs => MemS.mono hb, h2.mono hb fun x cs => XMem.mono hb⟩
theorem TbM.mono {B B' : Nat} {w : World} (hb : B ≤ B') {t : TbT} {cs : Array Value} (h : TbM B w t cs) : TbM B' w t cs := by
  obtain ⟨i, o, r, e, h1, h2, h3⟩ := h
  exact ⟨i, o, r, e, h1.mono hb fun x cs => CM.mono hb, h2.mono hb fun x cs => CM.mono hb, h3.mono hb fun x cs => RM.mono hb⟩

/-- the first of some that is not 0 -/
def fnz : List Int → Int
  | [] => 0
  | a :: l => if a ≠ 0 then a else fnz l
def ordV (k : Int) (v : Tree) : Int := if valX v ≠ 0 then valX v else if v.kind = 1 ∨ v.kind ≠ k then 9 else 0
def colW (c : CoT) (most : Nat) : Int := if c.kind ≠ 2 ∧ c.kind ≠ 3 ∧ c.kind ≠ 4 then 1 else if most < c.ord.length then 5 else fnz (c.ord.map (ordV c.kind))
def hasN (l : List CoT) (n : ByteArray) : Bool := l.any fun c => decide (c.name = n)
/-- the i-th column among all -/
def colAt (l : List CoT) (most : Nat) (i : Nat) : Int := match l[i]? with
  | none => 0
  | some c => if nameB c.name = false then 7 else if hasN (l.take i) c.name = true then 7 else colW c most
def colsW (l : List CoT) (many most : Nat) : Int := if l.length < 1 ∨ many < l.length then 5 else fnz ((List.range l.length).map (colAt l most))
def reckB (pol : Int) (outs : List CoT) : Bool :=
  if pol = 7 ∨ pol = 8 ∨ pol = 9 then decide (outs.length = 1) && decide ((outs[0]?).map (·.kind) = some 3)
  else if pol = 10 then decide (outs.length = 1) else true
def headW (t : TbT) : Int :=
  if nameB t.name = false then 7 else if t.pol < 1 ∨ 10 < t.pol then 1
  else if colsW t.ins 3 0 ≠ 0 then colsW t.ins 3 0
  else if colsW t.outs 3 (if t.pol = 3 then 20 else 0) ≠ 0 then colsW t.outs 3 (if t.pol = 3 then 20 else 0)
  else if reckB t.pol t.outs = false then 8 else 0
def testW (t : TS) (k : Int) : Int := if wrongS t 1 ≠ 0 then wrongS t 1 else if fitsS t k = false then 9 else 0
def outW (x : XT) (names : List (ByteArray × TT)) (k : Int) : Int := if (tpF x names).1 ≠ 0 then (tpF x names).1 else if decide ((tpF x names).2.Fits ⟨0, k⟩) = false then 9 else 0
def namesW (l : List CoT) : List (ByteArray × TT) := l.map fun c => (c.name, .mk c.kind [])
def ruleW (t : TbT) (r : RuT) : Int :=
  if r.tests.length ≠ t.ins.length then 5 else if r.outs.length ≠ t.outs.length then 5
  else fnz (List.zipWith (fun x c => testW x c.kind) r.tests t.ins ++ List.zipWith (fun x c => outW x (namesW t.ins) c.kind) r.outs t.outs)
/-- what is wrong with a table -/
def tabW (t : TbT) : Int := if headW t ≠ 0 then headW t else if 10 < t.rules.length then 5 else fnz (t.rules.map (ruleW t))
theorem fnz_yes {a : Int} {l : List Int} (h : a ≠ 0) : fnz (a :: l) = a := by rw [fnz, if_pos h]
theorem fnz_no {l : List Int} : fnz (0 :: l) = fnz l := by rw [fnz, if_neg (by simp)]
theorem fnz_drop {l : List Int} {i : Nat} {a : Int} (h : l[i]? = some a) : fnz (l.drop i) = if a ≠ 0 then a else fnz (l.drop (i + 1)) := by
  obtain ⟨hi, e⟩ := List.getElem?_eq_some_iff.1 h
  rw [List.drop_eq_getElem_cons hi, fnz, e]
end Go.Proofs.YtnegjbkbfgkkjaaGreatDoor

/- Walks: whether a value is of a plain type; a column's type. -/
namespace Go.Proofs.YtnegjbkbfgkkjaaGreatDoor
open Go.RowKit Go.MapKept

theorem eq_flip (a q : Int) : decide (a = q) = (q == a) := by
  by_cases h : a = q
  · subst h; simp
  · have h' : ¬ q = a := fun e => h e.symm
    simp [h, h']
def hasPl (k q : Int) : Bool := decide (k = 1 ∨ k = q)

set_option maxRecDepth 100000 in
set_option maxHeartbeats 4000000 in
theorem hasPl_any (pv : Value) (k : Int) (y : Bool) (c x : Int) (t : ByteArray) (a : Option Addr) (n cap : Nat) (q : Int) (hq : q = 2 ∨ q = 3 ∨ q = 4) (w : World) :
    Calls Tryz.prog 102 #[pv, .agg #[.int .i64 k, .bool y, .int .i64 c, .int .i64 x, .string t, .slice a n cap], shn 0 q] w fun e w' => e = .returned (.bool (hasPl k q)) ∧ Below w.heap.size w w' := by
  have I6 := hide (fun wx => is_any ⟨0, q⟩ 6 wx (by decide))
  have hd : decide ((⟨0, q⟩ : Sp).n = 0 ∧ (⟨0, q⟩ : Sp).k = 6) = false := by
    rcases hq with rfl | rfl | rfl <;> decide
  rw [hd] at I6
  obtain ⟨W0, hW0⟩ : ∃ W0, W0 = (w.alloc (.cells #[.int .i64 k, .bool y, .int .i64 c, .int .i64 x, .string t, .slice a n cap] 81)).alloc (.cells #[.int .i64 0, .int .i64 q] 158) := ⟨_, rfl⟩
  have B0 : Below w.heap.size w W0 := by rw [hW0]; exact below_via (vbelow_new _ _) (vbelow_new _ _)
  have V0 : V6 W0 w.heap.size (.int .i64 k) (.bool y) (.int .i64 c) (.int .i64 x) (.string t) (.slice a n cap) := by rw [hW0]; exact (V6.new w 81 _ _ _ _ _ _).keep (vbelow_new _ _) (by simp)
  have S0 : Bx2 W0 (w.heap.size + 1) (.int .i64 0) (.int .i64 q) := by
    rw [hW0]
    have := Bx2.new (w.alloc (.cells #[.int .i64 k, .bool y, .int .i64 c, .int .i64 x, .string t, .slice a n cap] 81)) 158 (.int .i64 0) (.int .i64 q)
    simpa using this
  have HB0 := hide B0
  have HV0 := hide V0
  have HS0 := hide S0
  obtain ⟨R, hR⟩ : ∃ R, R = hasPl k q := ⟨_, rfl⟩
  rw [← hR]
  have HR := hide hR
  clear B0 V0 S0 hR hd
  by_cases h1 : k = 1
  · subst h1
    obtain rfl : R = true := by rw [unhide HR]; simp [hasPl]
    clear I6
    go_enter Tryz.func102, Tryz.ntmps102
    go_wp2
    go_ret
    rw [← hW0]
    exact ⟨rfl, unhide HB0⟩
  have h1' : (k == 1) = false := by simpa using h1
  have HE : Hid (R = decide (k = q)) := hide (by rw [unhide HR, hasPl]; simp [h1])
  clear HR
  go_enter Tryz.func102, Tryz.ntmps102
  go_wp2_with fail
  rw [← hW0]
  refine (unhide I6 _).mono ?_
  rintro e w1 ⟨rfl, hb⟩
  have HB1 := hide (below_via (unhide HB0) hb)
  obtain ⟨v0, v1, v2, v3, v4, v5⟩ := ((unhide HV0).keep hb (unhide HV0).low).tell
  have s0 := ((unhide HS0).keep hb (unhide HS0).low).at0
  have s1 := ((unhide HS0).keep hb (unhide HS0).low).at1
  clear hb hW0 HB0 HV0 HS0 v1 v2 v3 v4 v5 I6
  by_cases k2 : k = 2
  · subst k2
    go_wp2
    go_ret
    rw [unhide HE, eq_flip]
    exact ⟨rfl, unhide HB1⟩
  have k2' : (k == 2) = false := by simpa using k2
  by_cases k3 : k = 3
  · subst k3
    go_wp2
    go_ret
    rw [unhide HE, eq_flip]
    exact ⟨rfl, unhide HB1⟩
  have k3' : (k == 3) = false := by simpa using k3
  by_cases k4 : k = 4
  · subst k4
    go_wp2
    go_ret
    rw [unhide HE, eq_flip]
    exact ⟨rfl, unhide HB1⟩
  have k4' : (k == 4) = false := by simpa using k4
  have HN := hide (show decide (k = q) = false from decide_eq_false (by omega))
  go_wp2
  go_ret
  rw [unhide HE, unhide HN]
  exact ⟨rfl, unhide HB1⟩

set_option maxRecDepth 100000 in
set_option maxHeartbeats 4000000 in
theorem typeOf_any (s : ByteArray) (k : Int) (o : Value) (w : World) :
    Calls Tryz.prog 50 #[.agg #[.string s, .int .i64 k, o]] w fun e w' => e = .returned (.agg #[.int .i64 k, .slice none 0 0]) ∧ Below w.heap.size w w' := by
  go_enter Tryz.func50, Tryz.ntmps50
  go_wp2_with fail
  exact bodyPost_ret (v := .agg #[.int .i64 k, .slice none 0 0]) (by simp [results, Tryz.results50, go_sem]) rfl ⟨rfl, below_via (vbelow_new _ _) (vbelow_new _ _)⟩
end Go.Proofs.YtnegjbkbfgkkjaaGreatDoor

/- Walks: Has of a plain type; names of columns. -/
namespace Go.Proofs.YtnegjbkbfgkkjaaGreatDoor
open Go.RowKit Go.MapKept

set_option maxHeartbeats 2000000 in
theorem newLook_any (w : World) : Calls Tryz.prog 101 #[] w fun e w' => ∃ v, e = .returned v ∧ Below w.heap.size w w' := by
  have hmm := @run_makeMap Tryz.prog
  go_enter Tryz.func101, Tryz.ntmps101
  go_wp2
  go_ret
  exact ⟨_, rfl, below_via (vbelow_new _ _) (vbelow_new _ _)⟩

set_option maxRecDepth 100000 in
set_option maxHeartbeats 8000000 in
theorem tHasPl_any (k : Int) (y : Bool) (c x : Int) (t : ByteArray) (a : Option Addr) (n cap : Nat) (q : Int) (hq : q = 2 ∨ q = 3 ∨ q = 4) (w : World) :
    Calls Tryz.prog 79 #[.agg #[.int .i64 k, .bool y, .int .i64 c, .int .i64 x, .string t, .slice a n cap], .agg #[.int .i64 q, .slice none 0 0]] w fun e w' => e = .returned (.bool (hasPl k q)) ∧ Below w.heap.size w w' := by
  have hk5 : (⟨0, q⟩ : Sp).k ≠ 5 := by rcases hq with rfl | rfl | rfl <;> decide
  have SH : Hid (∀ wx : World, Calls Tryz.prog 86 #[.agg #[.int .i64 q, .slice none 0 0]] wx fun e w' => e = .returned (shn 0 q) ∧ Below wx.heap.size wx w') := hide (fun wx => shapeOf_any ⟨0, q⟩ _ wx (Nat.zero_le _) hk5 (MemTP.mkLeaf _ _ _ _ _))
  have NL := hide newLook_any
  have HP := hide (fun pv wx => hasPl_any pv k y c x t a n cap q hq wx)
  generalize hasPl k q = R at HP ⊢
  clear hk5 hq
  go_enter Tryz.func79, Tryz.ntmps79
  go_wp2_with fail
  have X0 := (V6.new w 81 (.int .i64 k) (.bool y) (.int .i64 c) (.int .i64 x) (.string t) (.slice a n cap)).keep (vbelow_new _ (.cells #[.int .i64 q, .slice none 0 0] 114)) (by simp)
  have X1 := Bx2.new (w.alloc (.cells #[.int .i64 k, .bool y, .int .i64 c, .int .i64 x, .string t, .slice a n cap] 81)) 114 (.int .i64 q) (.slice none 0 0)
  have W0 : Below w.heap.size w ((w.alloc (.cells #[.int .i64 k, .bool y, .int .i64 c, .int .i64 x, .string t, .slice a n cap] 81)).alloc (.cells #[.int .i64 q, .slice none 0 0] 114)) := below_via (vbelow_new _ _) (vbelow_new _ _)
  simp only [World.size_alloc] at X1
  generalize (w.alloc (.cells #[.int .i64 k, .bool y, .int .i64 c, .int .i64 x, .string t, .slice a n cap] 81)).alloc (.cells #[.int .i64 q, .slice none 0 0] 114) = w0 at X0 X1 W0 ⊢
  obtain ⟨y0, y1, y2, y3, y4, y5⟩ := X0.tell
  have z0 := X1.at0
  have z1 := X1.at1
  have HX0 := hide X0
  have HX1 := hide X1
  have HW0 := hide W0
  clear X0 X1 W0
  go_region_with (first
    | (go_at_call 101
       refine (unhide NL _).mono ?_
       rintro e w1 ⟨pv, rfl, hb⟩
       replace hb : Below w0.heap.size w0 w1 := below_via (by repeat (first | assumption | exact Below.refl _ _ | apply Below.drew)) hb
       obtain ⟨p0, p1, p2, p3, p4, p5⟩ := ((unhide HX0).keep hb (unhide HX0).low).tell
       have r0 := ((unhide HX1).keep hb (unhide HX1).low).at0
       have r1 := ((unhide HX1).keep hb (unhide HX1).low).at1)
    | (go_at_call 86
       refine (unhide SH _).mono ?_
       rintro e w2 ⟨rfl, hb2⟩
       replace hb2 : Below w0.heap.size w0 w2 := below_via (by repeat (first | assumption | exact Below.refl _ _ | apply Below.drew)) hb2
       obtain ⟨q0, q1, q2, q3, q4, q5⟩ := ((unhide HX0).keep hb2 (unhide HX0).low).tell)
    | (go_at_call 102
       refine (unhide HP _ _).mono ?_
       rintro e w3 ⟨rfl, hb3⟩
       replace hb3 : Below w.heap.size w w3 := below_via (unhide HW0) (below_via (by repeat (first | assumption | exact Below.refl _ _ | apply Below.drew)) hb3)))
  all_goals
    have H3 := hide hb3
    clear hb3
    go_wp2
    go_ret
    exact ⟨rfl, unhide H3⟩

set_option maxRecDepth 100000 in
set_option maxHeartbeats 4000000 in
theorem hasName1_any (s n : ByteArray) (k : Int) (o : Value) (cb : Nat) (w : World) (hc : w.cell? ⟨cb, 0, none⟩ = some (.string n)) :
    Calls Tryz.prog 77 #[.agg #[.string s, .int .i64 k, o], .pointer (some ⟨cb, 0, none⟩)] w fun e w' => e = .returned (.bool (s.toList == n.toList)) ∧ Below w.heap.size w w' := by
  have hc' : (w.alloc (.cells #[.string s, .int .i64 k, o] 91)).cell? ⟨cb, 0, none⟩ = some (.string n) := by
    rw [← hc]
    exact (vbelow_new w _).cell (p := ⟨cb, 0, none⟩) (World.block_lt_of_cell? w _ hc)
  go_enter Tryz.func77, Tryz.ntmps77
  go_wp2
  go_ret
  exact ⟨rfl, vbelow_new _ _⟩
end Go.Proofs.YtnegjbkbfgkkjaaGreatDoor

/- Walks: is there a column of that name; what is wrong with a column, with columns. -/
namespace Go.Proofs.YtnegjbkbfgkkjaaGreatDoor
open Go.RowKit Go.MapKept

theorem CM.cells {B : Nat} {w : World} {l : List CoT} {b off n cap : Nat} (h : Ls B w 3 (CM B w) l (.slice (some ⟨b, off, none⟩) n cap)) {i : Nat} {c : CoT} (hi : l[i]? = some c) :
    ∃ o, w.cell? ⟨b, off + i * 3, none⟩ = some (.string c.name) ∧ w.cell? ⟨b, off + i * 3 + 1, none⟩ = some (.int .i64 c.kind) ∧ w.cell? ⟨b, off + i * 3 + 2, none⟩ = some o ∧ Ls B w 6 (Mem B w) c.ord o ∧ b < B := by
  obtain ⟨a, cap', e, _, hk⟩ := h.tell
  obtain ⟨b', off', ea, hl, hm⟩ := hk (by intro e; subst e; simp at hi)
  cases e
  cases ea
  obtain ⟨cs, hs, ⟨o, rfl, ho⟩, hc⟩ := hm i c hi
  exact ⟨o, by simpa using hc 0 _ rfl, by simpa using hc 1 _ rfl, by simpa using hc 2 _ rfl, ho, hl⟩
/-- a slice that is not empty begins somewhere -/
theorem Ls.begins {α : Type} {B : Nat} {w : World} {n : Nat} {R : α → Array Value → Prop} {l : List α} {v : Value} (h : Ls B w n R l v) (hne : l ≠ []) : ∃ b off cap, v = .slice (some ⟨b, off, none⟩) l.length cap := by
  obtain ⟨a, cap, e, _, hk⟩ := h.tell
  obtain ⟨b, off, ea, _⟩ := hk hne
  exact ⟨b, off, cap, by rw [e, ea]⟩
theorem Ls.take {α : Type} {B : Nat} {w : World} {n : Nat} {R : α → Array Value → Prop} {l : List α} {b off m cap : Nat} (h : Ls B w n R l (.slice (some ⟨b, off, none⟩) m cap)) {i cap' : Nat} (hi : i ≤ l.length) (hc : i ≤ cap' ∧ cap' ≤ 9223372036854775807) : Ls B w n R (l.take i) (.slice (some ⟨b, off, none⟩) i cap') := by
  obtain ⟨a, c, e, _, hk⟩ := h.tell
  refine ⟨by rw [List.length_take]; have := h.len; omega, _, cap', by rw [List.length_take, Nat.min_eq_left hi], ⟨by rw [List.length_take]; omega, hc.2⟩, fun hne => ?_⟩
  obtain ⟨b', off', ea, hl, hm⟩ := hk (by intro e; subst e; simp at hne)
  cases e
  cases ea
  refine ⟨b, off, rfl, hl, fun j x hj => hm j x ?_⟩
  rw [List.getElem?_take] at hj
  split at hj
  · exact hj
  · cases hj

def sameS (s n : ByteArray) : Bool := s.toList == n.toList
theorem sameS_eq (s n : ByteArray) : sameS s n = decide (s = n) := by
  unfold sameS
  by_cases h : s = n
  · subst h; simp
  · have : ¬ s.toList = n.toList := fun e => h (by
      have e2 : s.data.toList = n.data.toList := by simpa [ByteArray.toList_eq] using e
      cases s; cases n; congr; simpa using Array.toList_inj.1 e2)
    simp [h, this]
set_option maxRecDepth 100000 in
set_option maxHeartbeats 4000000 in
theorem indexCol_any {B : Nat} (l : List CoT) (v : Value) (n : ByteArray) (cb : Nat) (w : World) (hB : B ≤ w.heap.size) (hc : w.cell? ⟨cb, 0, none⟩ = some (.string n)) (hl : Ls B w 3 (CM B w) l v) :
    Calls Tryz.prog 99 #[v, .func (.func 77) #[] #[.pointer (some ⟨cb, 0, none⟩)]] w fun e w' => (∃ r, e = .returned (.int .i64 r) ∧ decide (0 ≤ r) = l.any (fun c => sameS c.name n)) ∧ Below w.heap.size w w' := by
  have hcl := World.block_lt_of_cell? w _ hc
  have HF := hide (fun s k o wx (hb : Below w.heap.size w wx) => hasName1_any s n k o cb wx ((hb.cell (p := ⟨cb, 0, none⟩) hcl).trans hc))
  obtain ⟨hlen, a, cap, rfl, _, hk⟩ := id hl
  have HL := hide hl
  clear hl hc hcl hk
  go_enter Tryz.func99, Tryz.ntmps99
  go_wp2
  go_loopw [8] (fun i wr => ∃ m : Nat, m ≤ l.length ∧ i = .int .i64 (m : Int) ∧ Hid (∀ c ∈ l.take m, sameS c.name n = false) ∧ Hid (Below w.heap.size w wr)) (fun i _ => l.length - (intOf i).toNat)
  case atStart => exact ⟨0, Nat.zero_le _, rfl, hide (by simp), hide (Below.refl _ _)⟩
  case round =>
    obtain ⟨m, hml, rfl, HN, HB⟩ := hrel
    by_cases hlt : m < l.length
    · have hi1 : (m : Int) < (l.length : Int) := by omega
      obtain ⟨u, hu⟩ : ∃ u, l[m]? = some u := ⟨_, List.getElem?_eq_getElem hlt⟩
      obtain ⟨b, off, cap', ev⟩ := (unhide HL).begins (by intro e; subst e; simp at hlt)
      cases ev
      obtain ⟨o, c0, c1, c2, _, _⟩ := CM.cells ((unhide HL).below ((unhide HB).mono hB) fun x cs => CM.below ((unhide HB).mono hB)) hu
      obtain ⟨us, uk, uo⟩ := u
      have HU := hide hu
      have C := hide (unhide HF us uk o wr (unhide HB))
      obtain ⟨R, hR⟩ : ∃ R, R = (us.toList == n.toList) := ⟨_, rfl⟩
      rw [← hR] at C
      have HR := hide hR
      clear hu hR
      go_wp2_with fail
      refine (unhide C).mono ?_
      rintro e w2 ⟨rfl, hb2⟩
      have HB2 := hide (below_via (unhide HB) hb2)
      clear hb2 C
      cases R with
      | true =>
        go_wp2
        go_ret
        refine ⟨⟨_, rfl, ?_⟩, unhide HB2⟩
        rw [decide_eq_true (by omega)]
        exact (List.any_eq_true.2 ⟨_, List.mem_of_getElem? (unhide HU), (unhide HR).symm⟩).symm
      | false =>
        go_wp2
        go_round
        · refine ⟨m + 1, hlt, rfl, hide ?_, HB2⟩
          intro c hc
          rw [List.take_add_one, unhide HU] at hc
          rcases List.mem_append.1 hc with q | q
          · exact unhide HN c q
          · obtain rfl : c = ⟨us, uk, uo⟩ := by simpa using q
            exact (unhide HR).symm
        · simp only [intOf]; omega
    · have hi1 : ¬ (m : Int) < (l.length : Int) := by omega
      go_wp2
      go_ret
      refine ⟨⟨_, rfl, ?_⟩, unhide HB⟩
      have hm : m = l.length := by omega
      rw [decide_eq_false (by omega)]
      refine (List.any_eq_false.2 fun c hc => ?_).symm
      have := unhide HN c (by rw [hm, List.take_length]; exact hc)
      simpa using this

theorem hasN_any (l : List CoT) (n : ByteArray) : hasN l n = l.any fun c => sameS c.name n := by
  unfold hasN
  congr 1
  funext c
  rw [sameS_eq]

set_option maxRecDepth 100000 in
set_option maxHeartbeats 4000000 in
theorem hasCol_any {B : Nat} (l : List CoT) (v : Value) (n : ByteArray) (w : World) (hB : B ≤ w.heap.size) (hl : Ls B w 3 (CM B w) l v) :
    Calls Tryz.prog 62 #[v, .string n] w fun e w' => e = .returned (.bool (hasN l n)) ∧ Below w.heap.size w w' := by
  have b1 := vbelow_new w (.cells #[.string n] 9)
  have IX := hide (indexCol_any l v n w.heap.size (w.alloc (.cells #[.string n] 9)) (Nat.le_trans hB b1.size) (by simp) (hl.below (b1.mono hB) fun x cs => CM.below (b1.mono hB)))
  have HB1 := hide b1
  rw [← hasN_any] at IX
  generalize hasN l n = R at IX ⊢
  have CF : Hid (∀ wx : World, wx = w.alloc (.cells #[.string n] 9) → Calls Tryz.prog 76 #[v, .func (.func 77) #[] #[.pointer (some ⟨w.heap.size, 0, none⟩)]] wx fun e w' => e = .returned (.bool R) ∧ Below wx.heap.size wx w') := hide (by
    rintro wx rfl
    obtain ⟨a, cap, rfl, _⟩ := hl.tell
    clear hl
    go_enter Tryz.func76, Tryz.ntmps76
    go_wp2_with fail
    refine (unhide IX).mono ?_
    rintro e w2 ⟨⟨r, rfl, hr⟩, hb2⟩
    have HB2 := hide hb2
    have HR := hide hr
    clear hb2 hr
    go_wp2
    go_ret
    rw [← unhide HR]
    exact ⟨rfl, unhide HB2⟩)
  clear b1 IX
  obtain ⟨a, cap, rfl, _⟩ := hl.tell
  clear hl
  go_enter Tryz.func62, Tryz.ntmps62
  go_wp2_with fail
  refine (unhide CF _ rfl).mono ?_
  rintro e w2 ⟨rfl, hb2⟩
  have HB2 := hide (below_via (unhide HB1) hb2)
  clear hb2 CF HB1
  go_wp2
  go_ret
  exact ⟨rfl, unhide HB2⟩
end Go.Proofs.YtnegjbkbfgkkjaaGreatDoor
