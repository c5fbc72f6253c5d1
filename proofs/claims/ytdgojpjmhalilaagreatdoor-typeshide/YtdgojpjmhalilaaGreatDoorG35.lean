/- Walks: names' types in memory; wrongAsked; newTyper. -/
import Derived.Test.YtdgojpjmhalilaaGreatDoorG24
import Derived.Test.YtdgojpjmhalilaaGreatDoorG34
import Derived.Test.YtdgojpjmhalilaaGreatDoorG21
import Derived.Test.YtdgojpjmhalilaaGreatDoorG27
import Derived.Test.YtdgojpjmhalilaaGreatDoorG06
namespace Go.Proofs.YtdgojpjmhalilaaGreatDoor
open Go.RowKit Go.MapKept

/-- what lies that names and values are told by -/
structure GdT (B : Nat) (w : World) : Prop where
  lt : ∀ W, Below B w W → LT W
  sg : ∀ W, Below B w W → SG W
  tb : TabsIn B w
theorem GdT.keep {B : Nat} {w w' : World} (h : GdT B w) (hb : Below B w w') : GdT B w' := ⟨fun W k => h.lt W (hb.trans k), fun W k => h.sg W (hb.trans k), h.tb.below hb⟩
def valX (T : Tree) : Int := (wrongF T 0 1).1
theorem envX (B : Nat) : EnvX B (GdT B) nameB valX where
  keep := fun _ _ h hb => h.keep hb
  named := fun s w _ _ hG => named_any s w (hG.lt w (Below.refl _ _)) (hG.sg w (Below.refl _ _))
  val := fun T v w hM hB hG => logicWrong_any T v B w hB hM hG.tb

/-- the names' types in memory -/
def VMemL (B : Nat) (w : World) (l : List (ByteArray × TT)) (b off : Nat) : Prop := ∀ i v, l[i]? = some v → ∃ (k : Int) (a : Option Addr) (n cap : Nat), w.cell? ⟨b, off + i * 3, none⟩ = some (.string v.1) ∧ w.cell? ⟨b, off + i * 3 + 1, none⟩ = some (.int .i64 k) ∧ w.cell? ⟨b, off + i * 3 + 2, none⟩ = some (.slice a n cap) ∧ MemT B w v.2 #[.int .i64 k, .slice a n cap] ∧ v.1.size ≤ 9223372036854775807
theorem VMemL.below {B : Nat} {w w' : World} {l : List (ByteArray × TT)} {b off : Nat} (h : VMemL B w l b off) (hb : Below B w w') (hl : b < B) : VMemL B w' l b off := by
  intro i v hi
  obtain ⟨k, a, n, cap, h1, h2, h3, h4, h5⟩ := h i v hi
  have c : ∀ o, w'.cell? ⟨b, o, none⟩ = w.cell? ⟨b, o, none⟩ := fun o => hb.cell (p := ⟨b, o, none⟩) hl
  exact ⟨k, a, n, cap, by rw [c, h1], by rw [c, h2], by rw [c, h3], h4.below hb, h5⟩
/-- vars as a slice -/
structure VS (B : Nat) (w : World) (v : Value) (l : List (ByteArray × TT)) : Prop where
  len : l.length ≤ 9223372036854775807
  tell : ∃ a cap, v = .slice a l.length cap ∧ (l ≠ [] → ∃ b off, a = some ⟨b, off, none⟩ ∧ b < B ∧ VMemL B w l b off)
theorem VS.below {B : Nat} {w w' : World} {v : Value} {l : List (ByteArray × TT)} (h : VS B w v l) (hb : Below B w w') : VS B w' v l := by
  obtain ⟨h1, a, cap, h2, h3⟩ := h
  refine ⟨h1, a, cap, h2, fun hne => ?_⟩
  obtain ⟨b, off, ha, hl, hm⟩ := h3 hne
  exact ⟨b, off, ha, hl, hm.below hb hl⟩
theorem VS.mono {B B' : Nat} {w : World} {v : Value} {l : List (ByteArray × TT)} (h : VS B w v l) (hB : B ≤ B') : VS B' w v l := by
  obtain ⟨h1, a, cap, h2, h3⟩ := h
  refine ⟨h1, a, cap, h2, fun hne => ?_⟩
  obtain ⟨b, off, ha, hl, hm⟩ := h3 hne
  refine ⟨b, off, ha, Nat.lt_of_lt_of_le hl hB, fun i u hi => ?_⟩
  obtain ⟨k, a, n, cap, q1, q2, q3, q4, q5⟩ := hm i u hi
  exact ⟨k, a, n, cap, q1, q2, q3, q4.mono hB, q5⟩

/-- what is wrong with the names and their types -/
def vsF : List (ByteArray × TT) → Int
  | [] => 0
  | v :: vs => if nameB v.1 = false then 7 else if wrongTy 1 v.2 ≠ 0 then wrongTy 1 v.2 else vsF vs
def waF (x : XT) (l : List (ByteArray × TT)) : Int := if (xwF nameB valX x 0 1).1 ≠ 0 then (xwF nameB valX x 0 1).1 else if 50 < l.length then 5 else vsF l
theorem vsF_at {l : List (ByteArray × TT)} {m : Nat} {v : ByteArray × TT} (h : l[m]? = some v) : vsF (l.drop m) = if nameB v.1 = false then 7 else if wrongTy 1 v.2 ≠ 0 then wrongTy 1 v.2 else vsF (l.drop (m + 1)) := by rw [drop_at h, vsF]

set_option maxRecDepth 100000 in
set_option maxHeartbeats 8000000 in
theorem wrongAsked_any {B : Nat} (x : XT) (cs : Array Value) (l : List (ByteArray × TT)) (vv : Value) (w : World) (hx : XMem B w x cs) (hv : VS B w vv l) (hB : B ≤ w.heap.size) (hG : GdT B w) :
    Calls Tryz.prog 8 #[.agg cs, vv] w fun e w' => e = .returned (.int .i64 (waF x l)) ∧ Below B w w' := by
  obtain ⟨k, vk, vy, vc, vx, vt, va, vn, vp, s, xa, xn, xp, rfl⟩ := hx.form
  have hb := (Below.refl B w).alloc hB (.cells #[.int .i64 k, .int .i64 vk, .bool vy, .int .i64 vc, .int .i64 vx, .string vt, .slice va vn vp, .string s, .slice xa xn xp] 29)
  have C := hide (synWrong_any (envX B) x _ _ (XMem.below hb hx) (Nat.le_trans hB hb.size) (hG.keep hb))
  have HW : Hid (waF x l = if (xwF nameB valX x 0 1).1 ≠ 0 then (xwF nameB valX x 0 1).1 else if 50 < l.length then 5 else vsF l) := hide rfl
  generalize waF x l = R at *
  generalize (xwF nameB valX x 0 1).1 = xw at *
  have HB := hide hb
  have HG := hide hG
  obtain ⟨hlen, a, cap, rfl, hk⟩ := hv
  have HK := hide hk
  clear hb hx hG hk
  go_enter Tryz.func8, Tryz.ntmps8
  go_wp2_with fail
  with_reducible refine (unhide C).mono ?_
  rintro e w1 ⟨rfl, hb1⟩
  have HB1 := hide ((unhide HB).trans hb1)
  clear hb1 C HB
  by_cases h0 : xw = 0
  · subst h0
    rw [if_neg (by simp)] at HW
    by_cases h50 : 50 < l.length
    · rw [if_pos h50] at HW
      have h50' : (50 : Int) < (l.length : Int) := by omega
      go_wp2
      go_ret
      exact ⟨by rw [unhide HW]; rfl, unhide HB1⟩
    · rw [if_neg h50] at HW
      have h50' : ¬ (50 : Int) < (l.length : Int) := by omega
      go_wp2
      go_loopw [19] (fun i wr => ∃ m : Nat, m ≤ l.length ∧ i = .int .i64 (m : Int) ∧ Hid (R = vsF (l.drop m)) ∧ Hid (Below B w wr)) (fun i _ => l.length - (intOf i).toNat)
      case atStart => exact ⟨0, Nat.zero_le _, rfl, HW, HB1⟩
      case round =>
        obtain ⟨m, hml, rfl, H, HB2⟩ := hrel
        clear HW HB1
        by_cases hlt : m < l.length
        · have hi1 : (m : Int) < (l.length : Int) := by omega
          obtain ⟨u, hu⟩ : ∃ u, l[m]? = some u := ⟨_, List.getElem?_eq_getElem hlt⟩
          obtain ⟨b, off, rfl, hlB, hm⟩ := unhide HK (by intro e; subst e; simp at hlt)
          obtain ⟨tk, ta, tn, tcap, c0, c1, c2, hT, hsz⟩ := (hm.below (unhide HB2) hlB) m u hu
          obtain ⟨us, uT⟩ := u
          simp only at c0 hT hsz
          have E := hide ((unhide H).trans (vsF_at hu))
          have hbz : B ≤ wr.heap.size := Nat.le_trans hB (unhide HB2).size
          have hba := (Below.refl wr.heap.size wr).alloc (Nat.le_refl _) (.cells #[.string us, .int .i64 tk, .slice ta tn tcap] 35)
          have hbB := (unhide HB2).trans (hba.mono hbz)
          have CN := hide (named_any us _ ((unhide HG).lt _ hbB) ((unhide HG).sg _ hbB))
          have CW := hide (fun wx (hb : Below wr.heap.size wr wx) => tWrong_any uT #[.int .i64 tk, .slice ta tn tcap] wx ((hT.below (hb.mono hbz)).mono (Nat.le_trans hbz hb.size)))
          have X3 : Hid (∀ wx, Below (wr.heap.size + 1) (wr.alloc (.cells #[.string us, .int .i64 tk, .slice ta tn tcap] 35)) wx → wx.cell? ⟨wr.heap.size, 1, none⟩ = some (.int .i64 tk) ∧ wx.cell? ⟨wr.heap.size, 2, none⟩ = some (.slice ta tn tcap)) := hide (fun wx hb => by
            have c : ∀ o, wx.cell? ⟨wr.heap.size, o, none⟩ = (wr.alloc (.cells #[.string us, .int .i64 tk, .slice ta tn tcap] 35)).cell? ⟨wr.heap.size, o, none⟩ := fun o => hb.cell (p := ⟨wr.heap.size, o, none⟩) (by simp)
            exact ⟨by rw [c]; simp [go_sem], by rw [c]; simp [go_sem]⟩)
          simp only at E
          generalize nameB us = nb at *
          generalize wrongTy 1 uT = wt at *
          have HBA := hide hba
          have HBB := hide hbB
          clear hu hm H hba hbB hT
          go_wp2_with fail
          with_reducible refine (unhide CN).mono ?_
          rintro e w2 ⟨rfl, hb2⟩
          obtain ⟨d1, d2⟩ := unhide X3 w2 (by simpa using hb2)
          have HB3 := hide (below_via (unhide HBA) hb2)
          have HB4 := hide ((unhide HB2).trans ((unhide HB3).mono hbz))
          clear hb2 CN c0 c1 c2 HBA HBB
          cases nb
          · rw [if_pos rfl] at E
            go_wp2
            go_ret
            exact ⟨by rw [unhide E]; rfl, unhide HB4⟩
          rw [if_neg (by simp)] at E
          have CW2 := hide (unhide CW _ (unhide HB3))
          clear CW
          go_wp2_with fail
          with_reducible refine (unhide CW2).mono ?_
          rintro e w3 ⟨rfl, hb3⟩
          have HB5 := hide ((unhide HB4).trans (hb3.mono (Nat.le_trans hB (unhide HB4).size)))
          clear hb3 CW2 HB3 HB4 X3 d1 d2
          by_cases ht : wt = 0
          · subst ht
            rw [if_neg (by simp)] at E
            go_wp2
            go_roundw
            case rel => exact ⟨m + 1, by omega, by go_num, E, HB5⟩
            case measure => simp [intOf]; omega
          · rw [if_pos ht] at E
            have ht' : (wt != 0) = true := by simpa using ht
            clear ht
            go_wp2
            go_ret
            exact ⟨by rw [unhide E]; rfl, unhide HB5⟩
        · obtain rfl : m = l.length := by omega
          have E : Hid (R = 0) := hide ((unhide H).trans (by rw [List.drop_length, vsF]))
          clear H HK
          go_wp2
          go_ret
          exact ⟨by rw [unhide E]; rfl, unhide HB2⟩
  · rw [if_pos h0] at HW
    have h0' : (xw != 0) = true := by simpa using h0
    clear h0
    go_wp2
    go_ret
    exact ⟨by rw [unhide HW]; rfl, unhide HB1⟩
end Go.Proofs.YtdgojpjmhalilaaGreatDoor

/- Walks: newTyper. -/
namespace Go.Proofs.YtdgojpjmhalilaaGreatDoor
open Go.RowKit Go.MapKept

/-- names with right types, as types are written -/
def wrt (l : List (ByteArray × Sp)) : List (ByteArray × TT) := l.map fun v => (v.1, rt v.2)
theorem envA_at {E : Ev} : ∀ {l : List (ByteArray × Sp)} {m : Nat} {v : ByteArray × Sp}, l[m]? = some v → envA E (l.take (m + 1)) = (envA E (l.take m)).upd v.1 (some v.2)
  | [], m, v, h => by simp at h
  | u :: l, 0, v, h => by
    simp only [List.getElem?_cons_zero, Option.some.injEq] at h
    subst h
    simp [envA]
  | u :: l, m + 1, v, h => by
    have := envA_at (E := E.upd u.1 (some u.2)) (l := l) (m := m) (v := v) (by simpa using h)
    simpa [envA] using this

theorem makeMap_sh (n : Nat) (w : World) : (Instr.makeMap 57 (some (.int .i64 (n : Int)))).run Tryz.prog w = .ok (.map (some w.heap.size)) (w.alloc (.map #[] 0)) := by
  simp [Instr.makeMap, run_underlying Tryz.underlying57, go_sem]

set_option maxRecDepth 100000 in
set_option maxHeartbeats 8000000 in
theorem newTyper_any {B : Nat} (l : List (ByteArray × Sp)) (vv : Value) (w : World) (hv : VS B w vv (wrt l)) (hok : ∀ v ∈ l, v.2.ok) (hB : B ≤ w.heap.size) (hlen : l.length ≤ 50) (hw : 0 < w.heap.size) :
    Calls Tryz.prog 9 #[vv] w fun e w' => ∃ bt bf, e = .returned (.pointer (some ⟨bt, 0, none⟩)) ∧ TyS w.heap.size (w.heap.size + 1) bt w.heap.size bf (envOf l) 9 w' ∧ Below w.heap.size w w' := by
  obtain ⟨_, a, cap, rfl, hk⟩ := hv
  have hwl : (wrt l).length = l.length := by simp [wrt]
  rw [hwl] at *
  have h0 := makeMap_sh l.length w
  have N0 : Hid (MapF w.heap.size (envV (envA (fun _ => none) (l.take 0))) (w.alloc (.map #[] 0))) := hide (by
    rw [List.take_zero]
    exact MapF.new w)
  have B0 := hide ((Below.refl w.heap.size w).alloc (Nat.le_refl _) (.map #[] 0))
  have HK := hide hk
  have HO := hide hok
  clear hk hok hwl
  go_enter Tryz.func9, Tryz.ntmps9
  go_wp2
  go_loopw [11] (fun i wr => ∃ m : Nat, m ≤ l.length ∧ i = .int .i64 (m : Int) ∧ Hid (MapF w.heap.size (envV (envA (fun _ => none) (l.take m))) wr) ∧ Hid (Below w.heap.size w wr)) (fun i _ => l.length - (intOf i).toNat)
  case atStart => exact ⟨0, Nat.zero_le _, rfl, N0, B0⟩
  case round =>
    obtain ⟨m, hml, rfl, N1, B1⟩ := hrel
    clear N0 B0 h0
    by_cases hlt : m < l.length
    · have hi1 : (m : Int) < (l.length : Int) := by omega
      obtain ⟨u, hu⟩ : ∃ u, l[m]? = some u := ⟨_, List.getElem?_eq_getElem hlt⟩
      obtain ⟨b, off, rfl, hlB, hm⟩ := unhide HK (by intro e; unfold wrt at e; simp at e; subst e; simp at hlt)
      obtain ⟨tk, ta, tn, tcap, c0, c1, c2, hT, hsz⟩ := (hm.below ((unhide B1).mono hB) hlB) m (u.1, rt u.2) (by simp [wrt, hu])
      obtain ⟨us, ua⟩ := u
      simp only at c0 hT hsz
      have hao := unhide HO (us, ua) (List.mem_of_getElem? hu)
      simp only at hao
      have EU := hide (envA_at (E := fun _ => none) hu)
      have hbz : B ≤ wr.heap.size := Nat.le_trans hB (unhide B1).size
      obtain ⟨w2, hw2⟩ : ∃ w2, w2 = wr.alloc (.cells #[.string us, .int .i64 tk, .slice ta tn tcap] 35) := ⟨_, rfl⟩
      have hba : Below wr.heap.size wr w2 := by rw [hw2]; exact (Below.refl _ _).alloc (Nat.le_refl _) _
      have X3 : Hid (∀ wx, Below w2.heap.size w2 wx → wx.cell? ⟨wr.heap.size, 0, none⟩ = some (.string us) ∧ wx.cell? ⟨wr.heap.size, 1, none⟩ = some (.int .i64 tk) ∧ wx.cell? ⟨wr.heap.size, 2, none⟩ = some (.slice ta tn tcap)) := hide (fun wx hb => by
        have c : ∀ o, wx.cell? ⟨wr.heap.size, o, none⟩ = w2.cell? ⟨wr.heap.size, o, none⟩ := fun o => hb.cell (p := ⟨wr.heap.size, o, none⟩) (by rw [hw2]; simp)
        exact ⟨by rw [c, hw2]; simp [go_sem], by rw [c, hw2]; simp [go_sem], by rw [c, hw2]; simp [go_sem]⟩)
      have SH := hide (fun wx (hb : Below w2.heap.size w2 wx) => shapeOf_any ua #[.int .i64 tk, .slice ta tn tcap] wx (by have := hao.1; omega) (by have := hao.2; omega) ((hT.below ((below_via hba hb).mono hbz)).mono (Nat.le_trans hbz (below_via hba hb).size)))
      have PUT := hide (fun wx (hb : Below w2.heap.size w2 wx) => ((unhide N1).keep (below_via hba hb)).put Tryz.underlying57 Tryz.underlying9 us (sh ua))
      have HBA := hide hba
      obtain ⟨d0, d1, d2⟩ := unhide X3 w2 (Below.refl _ _)
      have lw2 : wr.heap.size < w2.heap.size := by rw [hw2]; simp
      clear hu hm hba hT hao
      go_upto_region 5 with fail
      rw [← hw2]
      clear hw2 c0 c1 c2
      go_region_with (go_at_call 12; refine (unhide SH _ (by repeat (first | assumption | exact Below.refl _ _ | apply Below.drew))).mono ?_; rintro e w3 ⟨rfl, hb⟩; replace hb : Below w2.heap.size w2 w3 := below_via (by repeat (first | assumption | exact Below.refl _ _ | apply Below.drew)) hb; obtain ⟨d0, d1, d2⟩ := unhide X3 w3 hb; obtain ⟨w4, hput, N4, Bt4⟩ := unhide PUT w3 hb)
      all_goals
        rw [show updV (envV (envA (fun _ => none) (l.take m))) us (some (sh ua)) = envV (envA (fun _ => none) (l.take (m + 1))) by rw [unhide EU]; exact envV_upd _ us (some ua)] at N4
        have hW := below_via (unhide B1) (below_via (unhide HBA) hb)
        have HN4 := hide N4
        have HB4 := hide (hW.trans (Bt4.below (Nat.le_refl _) hW.size))
        clear N4 Bt4 hW hb hput
        go_wp2
        go_roundw
        case rel => exact ⟨m + 1, by omega, by go_num, HN4, HB4⟩
        case measure => simp [intOf]; omega
    · obtain rfl : m = l.length := by omega
      rw [List.take_length] at N1
      have CF := hide (functions_tell (w.heap.size + 1) wr (by omega) (by have := (unhide N1).low; omega))
      have hbd : (envOf l).bd 9 := envA_bd l _ (fun s a h => by cases h) (fun v hv => (unhide HO v hv).1)
      have HBD := hide hbd
      clear hbd HK HO
      go_wp2_with fail
      with_reducible refine (unhide CF).mono ?_
      rintro e w3 ⟨bf, rfl, hF, hb3⟩
      have B3 := below_via (unhide B1) hb3
      have ba := (Below.refl w3.heap.size w3).alloc (Nat.le_refl _) (.cells #[.map (some w.heap.size), .map (some bf)] 61)
      have T3 : TyS w.heap.size (w.heap.size + 1) w3.heap.size w.heap.size bf (envOf l) 9 (w3.alloc (.cells #[.map (some w.heap.size), .map (some bf)] 61)) :=
        ⟨Nat.le_refl _, by omega, by have := ((unhide N1).keep hb3).low; omega, Bx2.new w3 _ _ _, ((unhide N1).keep hb3).keep ba, hF.keep (by omega) ba, unhide HBD⟩
      have HT3 := hide T3
      have HB3 := hide (below_via B3 ba)
      clear hF hb3 B3 ba T3 N1 B1 CF HBD
      go_wp2
      go_ret
      exact ⟨_, _, rfl, unhide HT3, unhide HB3⟩
end Go.Proofs.YtdgojpjmhalilaaGreatDoor

/- Walks: Type of any expression. -/
namespace Go.Proofs.YtdgojpjmhalilaaGreatDoor
open Go.RowKit Go.MapKept

/-- what names stand for is of no kind that is a list -/
def Ev.kk (E : Ev) : Prop := ∀ s a, E s = some a → a.k ≠ 5
theorem Ev.kk.upd {E : Ev} (h : E.kk) (s : ByteArray) (a : Option Sp) (ha : ∀ b, a = some b → b.k ≠ 5) : (E.upd s a).kk := by
  intro x b
  unfold Ev.upd
  split
  · exact ha b
  · exact h x b
theorem join_kk {a b : Sp} (ha : a.k ≠ 5) (hb : b.k ≠ 5) : (a.join b).k ≠ 5 := by
  unfold Sp.join
  split
  · exact hb
  · split
    · exact ha
    · show (6 : Int) ≠ 5; decide
theorem joinA_kk : ∀ (l : List Sp) (a : Sp), a.k ≠ 5 → (∀ b ∈ l, b.k ≠ 5) → (joinA a l).k ≠ 5
  | [], _, ha, _ => ha
  | b :: l, _, ha, h => joinA_kk l _ (join_kk ha (h b (List.mem_cons_self ..))) (fun c hc => h c (List.mem_cons_of_mem _ hc))
theorem elem_kk {a : Sp} (h : a.k ≠ 5) : a.elem.k ≠ 5 := by
  unfold Sp.elem
  split <;> exact h
theorem getD_kk {l : List Sp} (h : ∀ a ∈ l, a.k ≠ 5) (i : Nat) : (l.getD i ⟨0, 0⟩).k ≠ 5 := by
  rw [List.getD_eq_getElem?_getD]
  cases hi : l[i]? with
  | none => show (0 : Int) ≠ 5; decide
  | some a => exact h a (List.mem_of_getElem? hi)
theorem ofNodeF_kk {l : List Sp} (h : ∀ a ∈ l, a.k ≠ 5) (k : Int) : (ofNodeF k l).1.k ≠ 5 := by
  unfold ofNodeF
  split
  · unfold addF
    split
    · show (3 : Int) ≠ 5; decide
    · split
      · show (4 : Int) ≠ 5; decide
      · show (6 : Int) ≠ 5; decide
  split
  · show (3 : Int) ≠ 5; decide
  split
  · show (2 : Int) ≠ 5; decide
  split
  · show (2 : Int) ≠ 5; decide
  split
  · show (2 : Int) ≠ 5; decide
  split
  · show (2 : Int) ≠ 5; decide
  split
  · exact join_kk (getD_kk h 1) (getD_kk h 2)
  split
  · exact joinA_kk l ⟨0, 1⟩ (by decide) h
  · show (0 : Int) ≠ 5; decide
theorem fnTab_kk : ∀ e ∈ fnTab, ∀ k, e.2.2 = .always k → k ≠ 5 := by
  intro e he k hk
  simp only [fnTab, List.mem_cons, List.not_mem_nil, or_false] at he
  rcases he with rfl | rfl | rfl | rfl | rfl | rfl | rfl | rfl | rfl | rfl | rfl | rfl | rfl | rfl | rfl | rfl | rfl | rfl | rfl | rfl | rfl | rfl <;> simp at hk <;> omega
theorem tellF_kk {l : List Sp} (h : ∀ a ∈ l, a.k ≠ 5) (t : Tl) (ht : ∀ k, t = .always k → k ≠ 5) : (tellF t l).1.k ≠ 5 := by
  cases t with
  | always k => exact ht k rfl
  | elem => exact elem_kk (getD_kk h 0)
  | elems => exact joinA_kk (l.map Sp.elem) ⟨0, 1⟩ (by decide) (fun b hb => by
      obtain ⟨a, ha, rfl⟩ := List.mem_map.1 hb
      exact elem_kk (h a ha))
  | sum => show (3 : Int) ≠ 5; decide
  | between => show (2 : Int) ≠ 5; decide
theorem orW_kk {p : Sp × Bool} (h : p.1.k ≠ 5) : (orW p).2.k ≠ 5 := by
  unfold orW
  split
  · exact h
  · show (0 : Int) ≠ 5; decide
mutual
theorem tyF_kk : ∀ (x : XT) (E : Ev), E.kk → (tyF x E).2.k ≠ 5
  | .mk k v s ks, E, hE => by
    rw [tyF]
    split
    · show (litTy v.kind).k ≠ 5
      unfold litTy
      split
      · decide
      split
      · decide
      split <;> decide
    split
    · cases he : E s with
      | none => show (0 : Int) ≠ 5; decide
      | some a => exact hE s a he
    have hL := tyL_kk ks E hE
    split
    · unfold callF
      cases hf : fnIn fnTab s.data.toList with
      | none => show (0 : Int) ≠ 5; decide
      | some q =>
        simp only
        split
        · show (0 : Int) ≠ 5; decide
        · split
          · show (0 : Int) ≠ 5; decide
          · refine orW_kk ?_
            unfold ofF
            split
            · obtain ⟨e, he, rfl⟩ := fnIn_mem hf
              exact tellF_kk hL e.2.2 (fun k hk => fnTab_kk e he k hk)
            · show (0 : Int) ≠ 5; decide
    split
    · exact tyE_kk k s ks E hE
    · unfold nodeT
      split
      · show (0 : Int) ≠ 5; decide
      · exact orW_kk (ofNodeF_kk hL k)
theorem tyL_kk : ∀ (ks : List XT) (E : Ev), E.kk → ∀ a ∈ (tyL ks E).2, a.k ≠ 5
  | [], E, _ => by rw [tyL]; simp
  | x :: xs, E, hE => by
    rw [tyL]
    split
    · simp
    split
    · simp
    · intro a ha
      rcases List.mem_cons.1 ha with rfl | ha
      · exact tyF_kk x E hE
      · exact tyL_kk xs E hE a ha
theorem tyE_kk : ∀ (k : Int) (s : ByteArray) (ks : List XT) (E : Ev), E.kk → (tyE k s ks E).2.k ≠ 5
  | k, s, [], E, _ => by rw [tyE]; show (0 : Int) ≠ 5; decide
  | k, s, x :: xs, E, hE => by
    rw [tyE]
    split
    · show (0 : Int) ≠ 5; decide
    split
    · show (0 : Int) ≠ 5; decide
    · exact tyE2_kk k xs _ (hE.upd _ _ (fun b hb => by cases hb; exact elem_kk (tyF_kk x E hE)))
theorem tyE2_kk : ∀ (k : Int) (ks : List XT) (E : Ev), E.kk → (tyE2 k ks E).2.k ≠ 5
  | k, [], E, _ => by rw [tyE2]; show (0 : Int) ≠ 5; decide
  | k, y :: ys, E, hE => by
    rw [tyE2]
    unfold lastF
    split
    · show (0 : Int) ≠ 5; decide
    split
    · exact tyF_kk y E hE
    · exact orW_kk (by show (2 : Int) ≠ 5; decide)
end
theorem envA_kk : ∀ (l : List (ByteArray × Sp)) (E : Ev), E.kk → (∀ v ∈ l, v.2.k ≠ 5) → (envA E l).kk
  | [], _, h, _ => h
  | v :: vs, _, h, hl => envA_kk vs _ (h.upd _ _ (fun b hb => by cases hb; exact hl v (List.mem_cons_self ..))) (fun u hu => hl u (List.mem_cons_of_mem _ hu))

/-- the shape of a type -/
def spN : TT → Sp
  | .mk k ks => match ks with
    | [e] => if k = 5 then (spN e).listed else ⟨0, k⟩
    | _ => ⟨0, k⟩
theorem spN_rtN : ∀ (n : Nat) (k : Int), k ≠ 5 → spN (rtN n k) = ⟨n, k⟩
  | 0, k, _ => by rw [rtN, spN]; simp
  | n + 1, k, h => by rw [rtN, spN, if_pos rfl, spN_rtN n k h]; rfl
def spv (l : List (ByteArray × TT)) : List (ByteArray × Sp) := l.map fun v => (v.1, spN v.2)
theorem vsF_right : ∀ (l : List (ByteArray × TT)), vsF l = 0 → wrt (spv l) = l ∧ ∀ v ∈ spv l, v.2.ok
  | [], _ => ⟨rfl, fun v h => by cases h⟩
  | v :: vs, h => by
    rw [vsF] at h
    split at h
    · cases h
    split at h
    · rename_i g; exact absurd h g
    · rename_i g1 g2
      obtain ⟨a, ha, he⟩ := right_sp (T := v.2) (by simpa using g2)
      obtain ⟨q1, q2⟩ := vsF_right vs h
      have e1 : spN v.2 = a := by
        rw [he]
        show spN (rtN a.n a.k) = a
        rw [spN_rtN _ _ (by have := ha.2; omega)]
      constructor
      · show (v.1, rt (spN v.2)) :: wrt (spv vs) = v :: vs
        rw [e1, q1, ← he]
      · intro u hu
        rcases List.mem_cons.1 hu with rfl | hu
        · show (spN v.2).ok
          rw [e1]; exact ha
        · exact q2 u hu
/-- what Type tells -/
def tpF (x : XT) (l : List (ByteArray × TT)) : Int × Sp := if waF x l ≠ 0 then (waF x l, ⟨0, 0⟩) else tyF x (envOf (spv l))
theorem waF_right {x : XT} {l : List (ByteArray × TT)} (h : waF x l = 0) : (x.ok ∧ x.size ≤ 1000) ∧ l.length ≤ 50 ∧ wrt (spv l) = l ∧ ∀ v ∈ spv l, v.2.ok := by
  unfold waF at h
  split at h
  · rename_i g; exact absurd h g
  · rename_i g
    have g' : (xwF nameB valX x 0 1).1 = 0 := by simpa using g
    obtain ⟨h1, h2, h3⟩ := (xwF_bd (nB := nameB) (vW := valX) x 0 1 (by omega)).2 g'
    split at h
    · cases h
    · rename_i g2
      exact ⟨⟨h2, by omega⟩, by omega, vsF_right l h⟩
theorem GdT.up {B B' : Nat} {w w' : World} (h : GdT B w) (hb : Below B w w') (hB : B ≤ B') : GdT B' w' :=
  ⟨fun W k => h.lt W (hb.trans (k.mono hB)), fun W k => h.sg W (hb.trans (k.mono hB)), (h.tb.below hb).1, Nat.lt_of_lt_of_le h.tb.2.1 hB, Nat.lt_of_lt_of_le h.tb.2.2 hB⟩

set_option maxRecDepth 100000 in
set_option maxHeartbeats 8000000 in
theorem type_any (x : XT) (cs : Array Value) (l : List (ByteArray × TT)) (vv : Value) (w : World) (hx : XMem w.heap.size w x cs) (hv : VS w.heap.size w vv l) (hG : GdT w.heap.size w) :
    Calls Tryz.prog 5 #[.agg cs, vv] w fun e w' => ∃ k a n cap, e = .returned (.tuple #[.agg #[.int .i64 k, .slice a n cap], .int .i64 (tpF x l).1]) ∧ ((tpF x l).1 = 0 → MemTP (fun q => w.heap.size ≤ q ∧ q < w'.heap.size) w' (rt (tpF x l).2) #[.int .i64 k, .slice a n cap]) ∧ Below w.heap.size w w' := by
  obtain ⟨k, vk, vy, vc, vx, vt, va, vn, vp, s, xa, xn, xp, rfl⟩ := hx.form
  obtain ⟨w0, hw0⟩ : ∃ w0, w0 = (w.alloc (.cells #[.int .i64 k, .int .i64 vk, .bool vy, .int .i64 vc, .int .i64 vx, .string vt, .slice va vn vp, .string s, .slice xa xn xp] 29)).alloc (.cells #[.int .i64 0, .slice none 0 0] 33) := ⟨_, rfl⟩
  have B0 : Below w.heap.size w w0 := by rw [hw0]; exact below2 w _ _
  have X9 : V9 w0 w.heap.size (.int .i64 k) (.int .i64 vk) (.bool vy) (.int .i64 vc) (.int .i64 vx) (.string vt) (.slice va vn vp) (.string s) (.slice xa xn xp) := by
    rw [hw0]; exact (V9.new w 29 _ _ _ _ _ _ _ _ _).keep ((Below.refl _ _).alloc (Nat.le_refl _) _) (by simp)
  have Y0 : Bx2 w0 (w.heap.size + 1) (.int .i64 0) (.slice none 0 0) := by
    rw [hw0]
    have := Bx2.new (w.alloc (.cells #[.int .i64 k, .int .i64 vk, .bool vy, .int .i64 vc, .int .i64 vx, .string vt, .slice va vn vp, .string s, .slice xa xn xp] 29)) 33 (.int .i64 0) (.slice none 0 0)
    simpa using this
  have l0 : w.heap.size + 1 < w0.heap.size := Y0.low
  have x0 := XMem.mono (Nat.le_of_lt (Nat.lt_of_le_of_lt (Nat.le_succ _) l0)) (XMem.below B0 hx)
  have v0 := (hv.below B0).mono (Nat.le_of_lt (Nat.lt_of_le_of_lt (Nat.le_succ _) l0))
  have CA := hide (wrongAsked_any x _ l vv w0 x0 v0 (Nat.le_refl _) (hG.up B0 (Nat.le_of_lt (Nat.lt_of_le_of_lt (Nat.le_succ _) l0))))
  have HP : Hid (tpF x l = if waF x l ≠ 0 then (waF x l, ⟨0, 0⟩) else tyF x (envOf (spv l))) := hide rfl
  generalize tpF x l = R at *
  have HR := hide (fun h => waF_right (x := x) (l := l) h)
  generalize waF x l = wa at *
  obtain ⟨u0, u1, u2, u3, u4, u5, u6, u7, u8⟩ := X9.tell
  have HX9 := hide X9
  have HY0 := hide Y0
  have HB0 := hide B0
  have Hx0 := hide x0
  have Hv0 := hide v0
  obtain ⟨va', vcap', hvv⟩ : ∃ a cap, vv = .slice a l.length cap := by obtain ⟨_, a, cap, h, _⟩ := hv; exact ⟨a, cap, h⟩
  subst hvv
  clear X9 Y0 B0 x0 v0 hx hv hG
  go_enter Tryz.func5, Tryz.ntmps5
  go_upto_region 1 with fail
  rw [← hw0]
  clear hw0
  go_wp2_with fail
  with_reducible refine (unhide CA).mono ?_
  rintro e w1 ⟨rfl, hb1⟩
  have lw1 : w0.heap.size ≤ w1.heap.size := hb1.size
  have HB1 := hide hb1
  clear CA hb1 u0 u1 u2 u3 u4 u5 u6 u7 u8
  by_cases h0 : wa = 0
  · subst h0
    rw [if_neg (by simp)] at HP
    obtain ⟨⟨hxo, hxs⟩, hl50, hwr, hvo⟩ := unhide HR rfl
    have v1 := ((unhide Hv0).below (unhide HB1)).mono lw1
    have CT := newTyper_any (B := w1.heap.size) (spv l) _ w1 (by rw [hwr]; exact v1) hvo (Nat.le_refl _) (by simp [spv]; exact hl50) (by omega)
    have HCT := hide CT
    have hE : (envOf (spv l)).kk := envA_kk (spv l) _ (fun s a h => by cases h) (fun v hv => by have := (hvo v hv).2; omega)
    have hK := tyF_kk x _ hE
    clear CT v1 hvo hwr HR hE
    go_wp2_with fail
    with_reducible refine (unhide HCT).mono ?_
    rintro e w2 ⟨bt, bf, rfl, hT, hb2⟩
    have lw2 : w1.heap.size ≤ w2.heap.size := hb2.size
    have CX := hide (typed_all x w1.heap.size (w1.heap.size + 1) bt w1.heap.size bf (envOf (spv l)) 9 w2 _ (XMem.below hb2 (XMem.mono lw1 (XMem.below (unhide HB1) (unhide Hx0)))) hxo hT (by omega))
    have hn := tyF_bd x _ 9 hT.bd
    have Z9 := ((unhide HX9).keep (unhide HB1) (unhide HX9).low).keep hb2 (Nat.lt_of_lt_of_le (unhide HX9).low lw1)
    obtain ⟨u0, u1, u2, u3, u4, u5, u6, u7, u8⟩ := Z9.tell
    have HB2 := hide hb2
    generalize tyF x (envOf (spv l)) = r at *
    obtain ⟨r1, r2⟩ := r
    simp only at CX hn hK
    clear hT hb2 HCT Z9 Hx0 Hv0 HX9
    go_wp2_with fail
    with_reducible refine (unhide CX).mono ?_
    rintro e w3 ⟨rfl, _, hbt⟩
    have hb3 : Below w1.heap.size w2 w3 := hbt.below (Nat.le_refl _) lw2
    have lw3 : w2.heap.size ≤ w3.heap.size := hbt.size
    have HB3 := hide ((unhide HB0).trans (((unhide HB1).trans (((unhide HB2).trans hb3).mono lw1)).mono (by omega)))
    have HY3 := hide ((((unhide HY0).keep (unhide HB1) (unhide HY0).low).keep ((unhide HB2).trans hb3) (by omega)))
    clear hbt hb3 CX u0 u1 u2 u3 u4 u5 u6 u7 u8 HB0 HB1 HB2 HY0
    obtain ⟨w4, hw4⟩ : ∃ w4, w4 = w3.alloc (.cells #[.int .i64 (r2.n : Int), .int .i64 r2.k] 47) := ⟨_, rfl⟩
    have ba : Below w3.heap.size w3 w4 := by rw [hw4]; exact (Below.refl _ _).alloc (Nat.le_refl _) _
    have X8 : Bx2 w4 w3.heap.size (.int .i64 (r2.n : Int)) (.int .i64 r2.k) := by rw [hw4]; exact Bx2.new w3 _ _ _
    have Y4 := (unhide HY3).keep ba (unhide HY3).low
    have HB4 := hide (below_via (unhide HB3) ba)
    have HX8 := hide X8
    have HY4 := hide Y4
    have lw4 : w3.heap.size < w4.heap.size := X8.low
    clear ba X8 Y4 HB3 HY3
    go_upto_region 6 with fail
    rw [← hw4]
    clear hw4
    by_cases hr : r1 = 0
    · subst hr
      have CW := hide (fun wx => written_any r2 wx (by omega))
      have f0 := (unhide HX8).at0
      have f1 := (unhide HX8).at1
      go_wp2_with fail
      with_reducible refine (unhide CW _).mono ?_
      rintro e w5 ⟨v, rfl, hM, hb5⟩
      have hform : ∃ (kk : Int) (aa : Option Addr) (nn cc : Nat), v = #[.int .i64 kk, .slice aa nn cc] := by
        have : ∀ T : TT, MemTP (fun q => w4.heap.size ≤ q ∧ q < w5.heap.size) w5 T v → ∃ (kk : Int) (aa : Option Addr) (nn cc : Nat), v = #[.int .i64 kk, .slice aa nn cc] := fun T h => by
          cases T with
          | mk q ks => obtain ⟨_, a, c, hv⟩ := h.any; exact ⟨_, _, _, _, hv⟩
        exact this _ hM
      obtain ⟨kk, aa, nn, cc, rfl⟩ := hform
      have Y5 := (unhide HY4).keep hb5 (unhide HY4).low
      have p5 : But (w.heap.size + 1) w5 (put2 w5 (w.heap.size + 1) (.int .i64 kk) (.slice aa nn cc)) := But.set.trans But.set
      have hM2 : MemTP (fun q => w.heap.size ≤ q ∧ q < (put2 w5 (w.heap.size + 1) (.int .i64 kk) (.slice aa nn cc)).heap.size) (put2 w5 (w.heap.size + 1) (.int .i64 kk) (.slice aa nn cc)) (rt r2) #[.int .i64 kk, .slice aa nn cc] :=
        MemTP.keep (fun b hb => ⟨⟨by omega, Nat.lt_of_lt_of_le hb.2 p5.size⟩, fun o => p5.cell (q := ⟨b, o, none⟩) hb.2 (by show b ≠ w.heap.size + 1; omega)⟩) hM
      have R5 := Y5.put (.int .i64 kk) (.slice aa nn cc)
      have r0 := hide R5.at0
      have r1' := hide R5.at1
      have HM := hide hM2
      have hB5 := below_via (unhide HB4) hb5
      have HF := hide (hB5.trans (p5.below (by omega) hB5.size))
      have y0 := Y5.at0
      have y1 := Y5.at1
      have t0 := Y5.th0
      have t1 := Y5.th1
      have lx := Y5.low
      clear hM hb5 Y5 p5 hM2 R5 hB5 HX8 HY4 HB4 CW f0 f1
      go_wp2
      refine bodyPost_ret (v := .tuple #[.agg #[.int .i64 kk, .slice aa nn cc], .int .i64 0]) (by simp [results, Tryz.results5, go_sem, unhide r0, unhide r1']) rfl ⟨kk, aa, nn, cc, by rw [unhide HP], fun _ => by rw [unhide HP]; exact unhide HM, unhide HF⟩
    · have hr' : (r1 != 0) = true := by simpa using hr
      have Y5 := unhide HY4
      have p5 : But (w.heap.size + 1) w4 (put2 w4 (w.heap.size + 1) (.int .i64 0) (.slice none 0 0)) := But.set.trans But.set
      have R5 := Y5.put (.int .i64 0) (.slice none 0 0)
      have r0 := hide R5.at0
      have r1' := hide R5.at1
      have HF := hide ((unhide HB4).trans (p5.below (by omega) (unhide HB4).size))
      have y0 := Y5.at0
      have y1 := Y5.at1
      have t0 := Y5.th0
      have t1 := Y5.th1
      have lx := Y5.low
      have HR2 := hide hr
      clear Y5 p5 R5 HX8 HY4 HB4 hr
      go_wp2
      refine bodyPost_ret (v := .tuple #[.agg #[.int .i64 0, .slice none 0 0], .int .i64 r1]) (by simp [results, Tryz.results5, go_sem, unhide r0, unhide r1']) rfl ⟨0, none, 0, 0, by rw [unhide HP], fun h => by rw [unhide HP] at h; exact absurd h (unhide HR2), unhide HF⟩
  · rw [if_pos h0] at HP
    have h0' : (wa != 0) = true := by simpa using h0
    have Y5 := (unhide HY0).keep (unhide HB1) (unhide HY0).low
    have p5 : But (w.heap.size + 1) w1 (put2 w1 (w.heap.size + 1) (.int .i64 0) (.slice none 0 0)) := But.set.trans But.set
    have R5 := Y5.put (.int .i64 0) (.slice none 0 0)
    have r0 := hide R5.at0
    have r1' := hide R5.at1
    have hB5 : Below w.heap.size w w1 := below_via (unhide HB0) (unhide HB1)
    have HF := hide (hB5.trans (p5.below (by omega) hB5.size))
    have y0 := Y5.at0
    have y1 := Y5.at1
    have t0 := Y5.th0
    have t1 := Y5.th1
    have lx := Y5.low
    have HR2 := hide h0
    clear Y5 p5 R5 hB5 HR HY0 HX9 HB0 HB1 Hx0 Hv0 h0
    go_wp2
    refine bodyPost_ret (v := .tuple #[.agg #[.int .i64 0, .slice none 0 0], .int .i64 wa]) (by simp [results, Tryz.results5, go_sem, unhide r0, unhide r1']) rfl ⟨0, none, 0, 0, by rw [unhide HP], fun h => by rw [unhide HP] at h; exact absurd h (unhide HR2), unhide HF⟩
end Go.Proofs.YtdgojpjmhalilaaGreatDoor
