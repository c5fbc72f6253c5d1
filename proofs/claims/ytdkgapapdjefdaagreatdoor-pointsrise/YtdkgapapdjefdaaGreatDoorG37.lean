/- textPoints. -/
import Derived.Test.YtdkgapapdjefdaaGreatDoorG35
import Derived.Test.YtdkgapapdjefdaaGreatDoorG18
import Derived.Test.YtdkgapapdjefdaaGreatDoorG26
import Derived.Test.YtdkgapapdjefdaaGreatDoorG36
namespace Go.Proofs.YtdkgapapdjefdaaGreatDoor
open Go.RowKit Go.Sort

set_option maxHeartbeats 400000 in
theorem clone9_any (s : ByteArray) (w : World) (hs : s.size ≤ 4000) :
    Calls Tryz.prog 47 #[.string s] w fun e w' => e = .returned (.string s) ∧ Below w.heap.size w w' := by
  have C := hide (fun wx => Any.stringslite_Clone Tryz.lays316 s wx (by omega))
  go_enter Tryz.func47, Tryz.ntmps47
  go_wp2_with (go_at_call 84; refine (unhide C _).mono ?_; rintro e w1 ⟨rfl, hb⟩)
  go_ret
  exact ⟨rfl, hb⟩

/-- with a byte 0 behind -/
def zT (e : ByteArray) : ByteArray := e ++ ⟨#[0]⟩
/-- one more edge -/
def stepT (acc : List ByteArray) (e : ByteArray) : List ByteArray := (if acc.getLast? = some e then acc else acc ++ [e]) ++ [zT e]
/-- the points of texts -/
def ptsT (es : List ByteArray) : List ByteArray := es.foldl stepT [⟨#[]⟩]
def flatT (l : List ByteArray) : List Value := l.flatMap valT
theorem flatT_app (l k : List ByteArray) : flatT (l ++ k) = flatT l ++ flatT k := by simp [flatT]
theorem flatT_one (x : ByteArray) : flatT [x] = valT x := by simp [flatT]
theorem stepT_yes {acc : List ByteArray} {e : ByteArray} (h : acc.getLast? = some e) : stepT acc e = acc ++ [zT e] := by rw [stepT, if_pos h]
theorem stepT_no {acc : List ByteArray} {e : ByteArray} (h : ¬ acc.getLast? = some e) : stepT acc e = acc ++ [e] ++ [zT e] := by rw [stepT, if_neg h]
theorem stepT_len (acc : List ByteArray) (e : ByteArray) : acc.length < (stepT acc e).length ∧ (stepT acc e).length ≤ acc.length + 2 := by
  unfold stepT
  split <;> simp
theorem foldT_len : ∀ (es acc : List ByteArray), acc.length ≤ (es.foldl stepT acc).length ∧ (es.foldl stepT acc).length ≤ acc.length + 2 * es.length
  | [], acc => by simp
  | e :: es, acc => by
    have h1 := foldT_len es (stepT acc e)
    have h2 := stepT_len acc e
    simp only [List.foldl_cons, List.length_cons]
    omega
theorem foldT_take {es : List ByteArray} {m : Nat} {e : ByteArray} (h : es[m]? = some e) : ptsT (es.take (m + 1)) = stepT (ptsT (es.take m)) e := by
  unfold ptsT
  rw [List.take_add_one, h, List.foldl_append]
  rfl
theorem flatT_last : ∀ (l : List ByteArray) (i : Nat) (s : ByteArray), l[i]? = some s → (flatT l)[i * 6 + 4]? = some (.string s)
  | [], i, s, h => by simp at h
  | a :: l, 0, s, h => by
    simp at h
    subst h
    rfl
  | a :: l, i + 1, s, h => by
    have := flatT_last l i s (by simpa using h)
    have e : flatT (a :: l) = valT a ++ flatT l := rfl
    rw [e, show (i + 1) * 6 + 4 = (i * 6 + 4) + 6 by omega, List.getElem?_append_right (by simp [valT])]
    simpa [valT] using this
theorem ownT_cell {w : World} {base g cap : Nat} {acc : List ByteArray} (h : w.ownsRow base 27 6 (.slice (some ⟨g, 0, none⟩) acc.length cap) acc.length (flatT acc)) (i : Nat) (s : ByteArray) (hi : acc[i]? = some s) : w.cell? ⟨g, i * 6 + 4, none⟩ = some (.string s) := by
  rcases h.2 with ⟨q, _⟩ | ⟨g', cap', cur, e, hbase, hgb, r1, r2, r3, r4⟩
  · simp at q
  · simp only [Value.slice.injEq, Option.some.injEq, Addr.mk.injEq, and_true] at e
    obtain ⟨rfl, _⟩ := e
    have hl : i < acc.length := (List.getElem?_eq_some_iff.1 hi).1
    have := flatT_last acc i s hi
    rw [← r4, List.getElem?_take_of_lt (by omega)] at this
    simp only [World.cell?, hgb]
    simpa using this

set_option maxRecDepth 100000 in
set_option maxHeartbeats 8000000 in
theorem textPts_any (es : List ByteArray) (u : Value) (w : World) (hu : ∃ a cap, u = .slice a es.length cap ∧ (es ≠ [] → ∃ g, a = some ⟨g, 0, none⟩ ∧ RowT w g es)) (hl : es.length ≤ 1000000) (hs : ∀ s ∈ es, s.size < 1000) :
    Calls Tryz.prog 22 #[u] w fun e w' => ∃ v, e = .returned v ∧ w'.ownsRow w.heap.size 27 6 v (ptsT es).length (flatT (ptsT es)) ∧ Below w.heap.size w w' := by
  obtain ⟨a, cap, rfl, hr⟩ := hu
  have hr' := hide hr
  have hs' := hide hs
  obtain ⟨w7, hmk, hown7, hb7⟩ := make_V (2 * es.length + 1) (by omega) w
  rw [show ((2 * es.length + 1 : Nat) : Int) = 2 * (es.length : Int) + 1 by omega] at hmk
  have H7 := hide hown7
  have HB7 := hide hb7
  have TX := hide (fun (s : ByteArray) wx => ptext_any s wx)
  have CL := hide (fun (s : ByteArray) (h : s.size < 1000) wx => clone9_any s wx (by omega))
  obtain ⟨i0, hi, hz0, hz1, hz2⟩ := info_parts info_V
  have HI := hide (And.intro hi (And.intro hz0 (And.intro hz1 hz2)))
  clear hown7 hb7 hi hz0 hz1 hz2 hr hs
  go_enter Tryz.func22, Tryz.ntmps22
  go_wp2_with fail
  refine (unhide TX _ _).mono ?_
  rintro e w8 ⟨rfl, hb8⟩
  have H8 := hide (own_keep9 (unhide H7) hb8)
  have HB8 := hide ((unhide HB7).trans (hb8.mono (unhide HB7).size))
  have hz8 : w.heap.size ≤ w8.heap.size := (unhide HB8).size
  clear hb8 hmk
  go_wp2_with (at_builtin; refine wpList_append_own _ rfl _ _ 25 rfl w.heap.size 27 i0 (.agg #[.int .i64 0, .bool false, .int .i64 0, .int .i64 0, .string ⟨#[]⟩, .slice none 0 0]) 6 72 Tryz.underlying25 (unhide HI).1 (unhide HI).2.1 (unhide HI).2.2.1 (unhide HI).2.2.2 rfl (by decide) _ _ _ rfl ((unhide H8).alloc _) ⟨w8.heap.size, 0, none⟩ 1 1 (valT ⟨#[]⟩) rfl rfl (cell_six9 _ _ _ _ _ _ _ _) (one_valT ⟨#[]⟩) ?c3 ?c4 ?c5 ?_)
  case c3 => unfold maxLen; omega
  case c4 => omega
  case c5 => simp; omega
  intro v9 w9 hown9 hg9 hnil9
  have H9 : Hid (w9.ownsRow w.heap.size 27 6 v9 (ptsT (es.take 0)).length (flatT (ptsT (es.take 0)))) := hide (by simpa [ptsT, flatT] using hown9)
  have HB9 := hide (own_grown9 ((unhide H8).alloc _) ((unhide HB8).alloc (by omega) _) hg9 (Nat.le_refl _) (by simp; omega))
  clear hown9 hg9 hnil9 H8 HB8 H7 HB7 hz8
  go_wp2
  go_loopw [3, 17] (fun sv i wr => ∃ m : Nat, m ≤ es.length ∧ i = .int .i64 (m : Int) ∧ Hid (wr.ownsRow w.heap.size 27 6 sv (ptsT (es.take m)).length (flatT (ptsT (es.take m)))) ∧ Hid (Below w.heap.size w wr)) (fun _ i _ => es.length - (intOf i).toNat)
  case atStart => exact ⟨0, Nat.zero_le _, rfl, H9, HB9⟩
  case round =>
    obtain ⟨m, hml, rfl, HO, HB⟩ := hrel
    clear H9 HB9
    have hwr : w.heap.size ≤ wr.heap.size := (unhide HB).size
    by_cases hlt2 : m < es.length
    · have hi1 : (m : Int) < (es.length : Int) := by omega
      obtain ⟨em, hem⟩ : ∃ u, es[m]? = some u := ⟨_, List.getElem?_eq_getElem hlt2⟩
      obtain ⟨g, rfl, R0⟩ := unhide hr' (by rintro rfl; simp at hlt2)
      have R := R0.keep (unhide HB)
      have rm := R.at0 m em hem
      have Ks := hide (unhide hs' em (List.mem_of_getElem? hem))
      have HT := hide (foldT_take hem)
      obtain ⟨acc, hacc⟩ : ∃ acc, acc = ptsT (es.take m) := ⟨_, rfl⟩
      have hal : acc.length ≤ 2 * m + 1 ∧ 1 ≤ acc.length := by
        have := foldT_len (es.take m) [⟨#[]⟩]
        rw [hacc]
        unfold ptsT
        simp at this
        omega
      rw [← hacc] at HO HT
      clear hacc hem R0 R
      obtain ⟨k, hk⟩ : ∃ k, acc.length = k + 1 := ⟨acc.length - 1, by omega⟩
      obtain ⟨gs, cs, rfl⟩ : ∃ g cap, u3 = .slice (some ⟨g, 0, none⟩) acc.length cap := by
        have h := unhide HO
        rw [hk] at h ⊢
        exact own_slice9 h
      obtain ⟨la, hla⟩ : ∃ s, acc[k]? = some s := ⟨_, List.getElem?_eq_getElem (by omega)⟩
      have cl := ownT_cell (unhide HO) k la hla
      have hgs := hide (lt_of_cell cl)
      have HL : Hid (acc.getLast? = some la) := hide (by rw [List.getLast?_eq_getElem?, hk]; simpa using hla)
      have hk1 : (acc.length : Int) - 1 = (k : Int) := by omega
      have hk2 : (k : Int) < (acc.length : Int) := by omega
      clear hla hk
      have hsz := unhide Ks
      by_cases he : la = em
      · subst he
        have HE := hide ((unhide HT).trans (stepT_yes (unhide HL)))
        have hq : (la.toList == la.toList) = true := by simp
        clear HT HL
        go_wp2_with fail
        refine (unhide TX (zT la) _).mono ?_
        rintro e w10 ⟨rfl, hb10⟩
        have H10 := hide (own_keep9 (unhide HO) hb10)
        have HB10 := hide ((unhide HB).trans (hb10.mono hwr))
        have hz10 : w.heap.size ≤ w10.heap.size := (unhide HB10).size
        clear hb10 rm cl HO HB
        go_wp2_with (at_builtin; refine wpList_append_own _ rfl _ _ 25 rfl w.heap.size 27 i0 (.agg #[.int .i64 0, .bool false, .int .i64 0, .int .i64 0, .string ⟨#[]⟩, .slice none 0 0]) 6 72 Tryz.underlying25 (unhide HI).1 (unhide HI).2.1 (unhide HI).2.2.1 (unhide HI).2.2.2 rfl (by decide) _ _ _ rfl ((unhide H10).alloc _) ⟨w10.heap.size, 0, none⟩ 1 1 (valT (zT la)) rfl rfl (cell_six9 _ _ _ _ _ _ _ _) (one_valT (zT la)) ?c3 ?c4 ?c5 ?_)
        case c3 => unfold maxLen; omega
        case c4 => omega
        case c5 => simp; omega
        intro v11 w11 hown11 hg11 hnil11
        have H11 : Hid (w11.ownsRow w.heap.size 27 6 v11 (ptsT (es.take (m + 1))).length (flatT (ptsT (es.take (m + 1))))) := hide (by rw [unhide HE, flatT_app, flatT_one]; simpa using hown11)
        have HB11 := hide (own_grown9 ((unhide H10).alloc _) ((unhide HB10).alloc (by omega) _) hg11 (Nat.le_refl _) (by simp; omega))
        clear hown11 hg11 hnil11 H10 HB10
        go_wp2
        go_roundw
        case rel => exact ⟨m + 1, by omega, by go_num, H11, HB11⟩
        case measure => simp [intOf]; omega
      · have HE := hide ((unhide HT).trans (stepT_no (fun q => he (by rw [unhide HL] at q; exact Option.some.inj q))))
        have hq : (la.toList == em.toList) = false := by
          rw [beq_eq_false_iff_ne]
          intro q
          rw [ByteArray.toList_eq, ByteArray.toList_eq] at q
          exact he (WideShapes.bytes_inj q)
        clear HT HL he
        go_wp2_with fail
        refine (unhide CL em hsz _).mono ?_
        rintro e w9 ⟨rfl, hb9⟩
        have HO9 := hide (own_keep9 (unhide HO) hb9)
        have HB9 := hide ((unhide HB).trans (hb9.mono hwr))
        have hz9 : w.heap.size ≤ w9.heap.size := (unhide HB9).size
        clear hb9 rm cl HO HB
        go_wp2_with fail
        refine (unhide TX em _).mono ?_
        rintro e w10 ⟨rfl, hb10⟩
        have H10 := hide (own_keep9 (unhide HO9) hb10)
        have HB10 := hide ((unhide HB9).trans (hb10.mono hz9))
        have hz10 : w.heap.size ≤ w10.heap.size := (unhide HB10).size
        clear hb10 HO9 HB9
        go_wp2_with (at_builtin; refine wpList_append_own _ rfl _ _ 25 rfl w.heap.size 27 i0 (.agg #[.int .i64 0, .bool false, .int .i64 0, .int .i64 0, .string ⟨#[]⟩, .slice none 0 0]) 6 72 Tryz.underlying25 (unhide HI).1 (unhide HI).2.1 (unhide HI).2.2.1 (unhide HI).2.2.2 rfl (by decide) _ _ _ rfl ((unhide H10).alloc _) ⟨w10.heap.size, 0, none⟩ 1 1 (valT em) rfl rfl (cell_six9 _ _ _ _ _ _ _ _) (one_valT em) ?c3 ?c4 ?c5 ?_)
        case c3 => unfold maxLen; omega
        case c4 => omega
        case c5 => simp; omega
        intro v11 w11 hown11 hg11 hnil11
        have H11 : Hid (w11.ownsRow w.heap.size 27 6 v11 (acc ++ [em]).length (flatT (acc ++ [em]))) := hide (by rw [flatT_app, flatT_one]; simpa using hown11)
        have HB11 := hide (own_grown9 ((unhide H10).alloc _) ((unhide HB10).alloc (by omega) _) hg11 (Nat.le_refl _) (by simp; omega))
        have hal2 : (acc ++ [em]).length = acc.length + 1 := by simp
        have hz11 : w.heap.size ≤ w11.heap.size := (unhide HB11).size
        clear hown11 hg11 hnil11 H10 HB10
        go_wp2_with fail
        refine (unhide TX (zT em) _).mono ?_
        rintro e w12 ⟨rfl, hb12⟩
        have H12 := hide (own_keep9 (unhide H11) hb12)
        have HB12 := hide ((unhide HB11).trans (hb12.mono hz11))
        have hz12 : w.heap.size ≤ w12.heap.size := (unhide HB12).size
        clear hb12 H11 HB11
        go_wp2_with (at_builtin; refine wpList_append_own _ rfl _ _ 25 rfl w.heap.size 27 i0 (.agg #[.int .i64 0, .bool false, .int .i64 0, .int .i64 0, .string ⟨#[]⟩, .slice none 0 0]) 6 72 Tryz.underlying25 (unhide HI).1 (unhide HI).2.1 (unhide HI).2.2.1 (unhide HI).2.2.2 rfl (by decide) _ _ _ rfl ((unhide H12).alloc _) ⟨w12.heap.size, 0, none⟩ 1 1 (valT (zT em)) rfl rfl (cell_six9 _ _ _ _ _ _ _ _) (one_valT (zT em)) ?c3 ?c4 ?c5 ?_)
        case c3 => unfold maxLen; omega
        case c4 => omega
        case c5 => simp; omega
        intro v13 w13 hown13 hg13 hnil13
        have H13 : Hid (w13.ownsRow w.heap.size 27 6 v13 (ptsT (es.take (m + 1))).length (flatT (ptsT (es.take (m + 1))))) := hide (by rw [unhide HE, flatT_app (acc ++ [em]), flatT_one]; simpa using hown13)
        have HB13 := hide (own_grown9 ((unhide H12).alloc _) ((unhide HB12).alloc (by omega) _) hg13 (Nat.le_refl _) (by simp; omega))
        clear hown13 hg13 hnil13 H12 HB12
        go_wp2
        go_roundw
        case rel => exact ⟨m + 1, by omega, by go_num, H13, HB13⟩
        case measure => simp [intOf]; omega
    · obtain rfl : m = es.length := by omega
      rw [List.take_length] at HO
      go_wp2
      go_ret
      exact ⟨_, rfl, unhide HO, unhide HB⟩
end Go.Proofs.YtdkgapapdjefdaaGreatDoor

/- Plain words: the values of right tests, how many there are. -/
namespace Go.Proofs.YtdkgapapdjefdaaGreatDoor
open Go.RowKit Go.Sort

mutual
theorem vals_right : ∀ (T : TS) (d : Nat), wrongS T d = 0 → ∀ v ∈ valsS T, valW v = 0
  | .mk k a b oa ob ks, d, h, v, hv => by
    have h4 : ¬ 4 < d := fun q => by rw [ws_much q] at h; cases h
    by_cases hk : k < 1 ∨ 9 < k
    · rw [ws_kind h4 hk] at h; cases h
    by_cases h8 : k = 8 ∨ k = 9
    · rw [ws_kids h4 h8] at h
      rw [vals_kids h8] at hv
      split at h
      · cases h
      · exact valsL_right ks (d + 1) h v hv
    by_cases h1 : k = 1
    · subst h1
      rw [vals_none (by omega)] at hv
      cases hv
    by_cases h2 : k = 2
    · subst h2
      rw [ws_is h4] at h
      rw [vals_one (by omega), List.mem_singleton] at hv
      rw [hv]
      exact h
    by_cases h7 : k = 7
    · subst h7
      rw [ws_in h4] at h
      rw [vals_two] at hv
      have := twoW0 h
      simp only [List.mem_cons, List.not_mem_nil, or_false] at hv
      rcases hv with rfl | rfl
      · exact this.1
      · exact this.2
    · rw [ws_one h4 (by omega)] at h
      rw [vals_one (by omega), List.mem_singleton] at hv
      rw [hv]
      exact oneW0 h
theorem valsL_right : ∀ (ks : List TS) (d : Nat), wrongSL ks d = 0 → ∀ v ∈ valsL ks, valW v = 0
  | [], d, h, v, hv => by rw [valsL] at hv; cases hv
  | u :: us, d, h, v, hv => by
    have h0 : wrongS u d = 0 := by
      rw [wrongSL] at h
      split at h
      · assumption
      · exact h
    rw [wrongSL, if_pos h0] at h
    rw [valsL] at hv
    rcases List.mem_append.1 hv with q | q
    · exact vals_right u d h0 v q
    · exact valsL_right us d h v q
end
mutual
theorem vals_len : ∀ (T : TS) (d : Nat), wrongS T d = 0 → (valsS T).length ≤ 2 * 20 ^ (4 - d)
  | .mk k a b oa ob ks, d, h => by
    have h4 : ¬ 4 < d := fun q => by rw [ws_much q] at h; cases h
    have hp : 1 ≤ 20 ^ (4 - d) := Nat.one_le_pow _ _ (by decide)
    by_cases h8 : k = 8 ∨ k = 9
    · rw [ws_kids h4 h8] at h
      rw [vals_kids h8]
      split at h
      · cases h
      · rename_i hn
        cases ks with
        | nil => simp at hn
        | cons u us =>
          have hd : d ≤ 3 := by
            have h0 : wrongS u (d + 1) = 0 := by
              rw [wrongSL] at h
              split at h
              · assumption
              · exact h
            rcases Nat.lt_or_ge 4 (d + 1) with q | q
            · obtain ⟨k', a', b', oa', ob', kk⟩ := u
              rw [ws_much q] at h0
              cases h0
            · omega
          have := valsL_len (u :: us) (d + 1) h
          have e : 20 ^ (4 - d) = 20 * 20 ^ (4 - (d + 1)) := by rw [show 4 - d = (4 - (d + 1)) + 1 by omega, Nat.pow_succ, Nat.mul_comm]
          rw [e]
          have hl : (u :: us).length ≤ 20 := by omega
          have := Nat.mul_le_mul_right (2 * 20 ^ (4 - (d + 1))) hl
          have e2 : 20 * (2 * 20 ^ (4 - (d + 1))) = 2 * (20 * 20 ^ (4 - (d + 1))) := by rw [Nat.mul_left_comm]
          omega
    · rw [valsS]
      split
      · simp; omega
      · split
        · simp; omega
        · simp
theorem valsL_len : ∀ (ks : List TS) (d : Nat), wrongSL ks d = 0 → (valsL ks).length ≤ ks.length * (2 * 20 ^ (4 - d))
  | [], d, h => by rw [valsL]; simp
  | u :: us, d, h => by
    have h0 : wrongS u d = 0 := by
      rw [wrongSL] at h
      split at h
      · assumption
      · exact h
    rw [wrongSL, if_pos h0] at h
    rw [valsL, List.length_append, List.length_cons, Nat.add_mul, Nat.one_mul]
    have := vals_len u d h0
    have := valsL_len us d h
    omega
end
theorem ask_right {kind : Int} : ∀ {ts : List TS}, askL kind ts = 0 → wrongSL ts 1 = 0 ∧ ∀ u ∈ ts, wrongS u 1 = 0 ∧ fitsS u kind = true
  | [], _ => ⟨by rw [wrongSL], fun u hu => by cases hu⟩
  | u :: us, h => by
    rw [askL] at h
    split at h
    · rename_i h0
      split at h
      · rename_i hf
        obtain ⟨h1, h2⟩ := ask_right h
        refine ⟨by rw [wrongSL, if_pos h0]; exact h1, fun v hv => ?_⟩
        rcases List.mem_cons.1 hv with rfl | q
        · exact ⟨h0, hf⟩
        · exact h2 v q
      · cases h
    · rename_i h0
      exact absurd h h0
theorem asked_right {kind : Int} {ts : List TS} (h : askW kind ts = 0) : kindOk kind ∧ ts.length ≤ 20 ∧ wrongSL ts 1 = 0 ∧ (∀ u ∈ ts, wrongS u 1 = 0 ∧ fitsS u kind = true) ∧ (valsL ts).length ≤ 320000 := by
  unfold askW at h
  split at h
  · rename_i hk
    split at h
    · cases h
    · rename_i hl
      obtain ⟨h1, h2⟩ := ask_right h
      refine ⟨hk, by omega, h1, h2, ?_⟩
      have h3 := valsL_len ts 1 h1
      have := Nat.mul_le_mul_right (2 * 20 ^ (4 - 1)) (show ts.length ≤ 20 by omega)
      have e : 20 * (2 * 20 ^ (4 - 1)) = 320000 := by decide
      omega
  · cases h
theorem valW_few {k : Int} {y : Bool} {c x : Int} {t : ByteArray} {ks : List Tree} (h : valW (.mk k y c x t ks) = 0) : (wrongF (.mk k y c x t ks) 0 1).1 = 0 ∧ (k = 3 → Few c x) := by
  rw [valW] at h
  split at h
  · rename_i h0
    refine ⟨h0, fun hk => ?_⟩
    subst hk
    rw [if_neg (by decide)] at h
    split at h
    · cases h
    · rename_i h3
      have hin : inR c x := by
        by_cases q : inR c x
        · exact q
        · exact absurd ⟨rfl, q⟩ h3
      have hw := wf_num0 h0
      refine ⟨hw, hin.2, ?_⟩
      have h9 := hin.1
      have hs := Dm.sgn_cases (Dm.V (max c (-c)) x - Dm.V 1 9)
      have hle : Dm.V (max c (-c)) x ≤ Dm.V 1 9 := by omega
      have e9 : Dm.V 1 9 = 10 ^ 49 := by decide
      have ea : (Dm.V c x).natAbs = (Dm.V (max c (-c)) x).natAbs := by
        rcases Int.le_total 0 c with q | q
        · rw [show max c (-c) = c by omega]
        · rw [show max c (-c) = -c by omega, Dm.V_opp]
          exact (Int.natAbs_neg _).symm
      have hp : 0 ≤ Dm.V (max c (-c)) x := by
        rcases Int.lt_or_eq_of_le (show 0 ≤ max c (-c) by omega) with q | q
        · exact Int.le_of_lt (Dm.V_pos q x)
        · rw [← q, Dm.V_zero]; exact Int.le_refl 0
      rw [ea]
      have : (10 : Int) ^ 49 ≤ 10 ^ 50 := by decide
      have e : ((10 ^ 50 : Nat) : Int) = (10 : Int) ^ 50 := by decide
      omega
  · exact absurd h ‹_›
theorem flat_le {α β : Type} (f : α → List β) (h : ∀ a, (f a).length ≤ 1) : ∀ l : List α, (l.flatMap f).length ≤ l.length
  | [] => by simp
  | a :: l => by
    have h1 := h a
    have h2 := flat_le f h l
    rw [List.flatMap_cons, List.length_append, List.length_cons]
    omega
theorem numE_few {kind : Int} {ts : List TS} (h : askW kind ts = 0) : (∀ p ∈ numE ts, Few p.1 p.2) ∧ (numE ts).length ≤ 320000 := by
  obtain ⟨_, _, h1, _, h3⟩ := asked_right h
  refine ⟨fun p hp => ?_, ?_⟩
  · obtain ⟨v, hv, hpv⟩ := (numE_mem ts p).1 hp
    have hw := valsL_right ts 1 h1 v hv
    obtain ⟨k, y, c, x, t, ks⟩ := v
    by_cases hk : k = 3
    · rw [numV, if_pos hk] at hpv
      rw [List.mem_singleton.1 hpv]
      exact (valW_few hw).2 hk
    · rw [numV, if_neg hk] at hpv
      cases hpv
  · unfold numE sortN
    rw [List.length_mergeSort, insV_flat]
    have := insF_len ((valsL ts).flatMap numV) []
    have h4 : ((valsL ts).flatMap numV).length ≤ (valsL ts).length := flat_le numV (fun v => by
      obtain ⟨k, y, c, x, t, ks⟩ := v
      by_cases hk : k = 3
      · rw [numV, if_pos hk]; exact Nat.le_refl 1
      · rw [numV, if_neg hk]; exact Nat.zero_le 1) _
    rw [List.length_nil, Nat.zero_add] at this
    omega
theorem txtE_few {kind : Int} {ts : List TS} (h : askW kind ts = 0) : (∀ s ∈ txtE ts, wrongT s = 0) ∧ (txtE ts).length ≤ 320000 := by
  obtain ⟨_, _, h1, _, h3⟩ := asked_right h
  refine ⟨fun p hp => ?_, ?_⟩
  · obtain ⟨v, hv, hpv⟩ := (txtE_mem ts p).1 hp
    have hw := valsL_right ts 1 h1 v hv
    obtain ⟨k, y, c, x, t, ks⟩ := v
    by_cases hk : k = 4
    · rw [txtV, if_pos hk] at hpv
      rw [List.mem_singleton.1 hpv]
      subst hk
      have := (valW_few hw).1
      rw [wrongF] at this
      simpa using this
    · rw [txtV, if_neg hk] at hpv
      cases hpv
  · unfold txtE sortT
    rw [List.length_mergeSort, insV_flat]
    have := insF_len ((valsL ts).flatMap txtV) []
    have h4 : ((valsL ts).flatMap txtV).length ≤ (valsL ts).length := flat_le txtV (fun v => by
      obtain ⟨k, y, c, x, t, ks⟩ := v
      by_cases hk : k = 4
      · rw [txtV, if_pos hk]; exact Nat.le_refl 1
      · rw [txtV, if_neg hk]; exact Nat.zero_le 1) _
    rw [List.length_nil, Nat.zero_add] at this
    omega
end Go.Proofs.YtdkgapapdjefdaaGreatDoor

/- Points. -/
namespace Go.Proofs.YtdkgapapdjefdaaGreatDoor
open Go.RowKit Go.Sort

/-- a value without kids, its cells -/
def leafC : Tree → List Value | .mk k y c x t _ => [.int .i64 k, .bool y, .int .i64 c, .int .i64 x, .string t, .slice none 0 0]
def flatL (l : List Tree) : List Value := l.flatMap leafC
def numT (p : Int × Int) : Tree := .mk 3 false p.1 p.2 ⟨#[]⟩ []
def txtT (s : ByteArray) : Tree := .mk 4 false 0 0 s []
def boolT (b : Bool) : Tree := .mk 2 b 0 0 ⟨#[]⟩ []
theorem flatL_num (l : List (Int × Int)) : flatL (l.map numT) = flatV l := by
  unfold flatL flatV
  rw [List.flatMap_map]
  rfl
theorem flatL_txt (l : List ByteArray) : flatL (l.map txtT) = flatT l := by
  unfold flatL flatT
  rw [List.flatMap_map]
  rfl

/-- what Points tells: an error, or values -/
inductive IsPoints (kind : Int) (ts : List TS) : Int → List Tree → Prop
  | wrong : askW kind ts ≠ 0 → IsPoints kind ts (askW kind ts) []
  | truths : askW kind ts = 0 → kind = 2 → IsPoints kind ts 0 [boolT false, boolT true]
  | numbers (l : List (Int × Int)) : askW kind ts = 0 → kind = 3 → IsPts (numE ts) l → IsPoints kind ts 0 (l.map numT)
  | much : askW kind ts = 0 → kind = 4 → roomy (txtE ts) = false → IsPoints kind ts 4 []
  | texts : askW kind ts = 0 → kind = 4 → roomy (txtE ts) = true → IsPoints kind ts 0 ((ptsT (txtE ts)).map txtT)

theorem own_nil9 (w : World) (base : Nat) (e : TypeId) (k : Nat) : w.ownsRow base e k (.slice none 0 0) 0 [] := ⟨by simp, .inl ⟨rfl, rfl⟩⟩

theorem rowD_any {w : World} {base : Nat} {u : Value} {es : List (Int × Int)} (h : w.ownsRow base 24 2 u es.length (flatD es)) : (es = [] ∧ ∃ a cap, u = .slice a 0 cap) ∨ (es ≠ [] ∧ ∃ g cap, u = .slice (some ⟨g, 0, none⟩) es.length cap ∧ RowD w g es) := by
  by_cases he : es = []
  · subst he
    rcases h.2 with ⟨rfl, _⟩ | ⟨g, cap, cur, rfl, _⟩
    · exact .inl ⟨rfl, _, _, rfl⟩
    · exact .inl ⟨rfl, _, _, rfl⟩
  · obtain ⟨g, cap, h1, _, h3⟩ := rowD_of h he
    exact .inr ⟨he, g, cap, h1, h3⟩
theorem rowT_any {w : World} {base : Nat} {u : Value} {es : List ByteArray} (h : w.ownsRow base 9 1 u es.length (es.map Value.string)) : ∃ a cap, u = .slice a es.length cap ∧ (es ≠ [] → ∃ g, a = some ⟨g, 0, none⟩ ∧ RowT w g es) := by
  by_cases he : es = []
  · subst he
    rcases h.2 with ⟨rfl, _⟩ | ⟨g, cap, cur, rfl, _⟩
    · exact ⟨_, _, rfl, fun q => absurd rfl q⟩
    · exact ⟨_, _, rfl, fun q => absurd rfl q⟩
  · obtain ⟨g, cap, h1, _, h3⟩ := rowT_of h he
    exact ⟨_, _, h1, fun _ => ⟨g, rfl, h3⟩⟩

theorem numPts_all (es : List (Int × Int)) (u : Value) (base : Nat) (w : World) (h : w.ownsRow base 24 2 u es.length (flatD es)) (hf : ∀ p ∈ es, Few p.1 p.2) (hl : es.length ≤ 1000000) :
    Calls Tryz.prog 14 #[u] w fun e w' => ∃ v ps, e = .returned v ∧ IsPts es ps ∧ w'.ownsRow w.heap.size 27 6 v ps.length (flatV ps) ∧ Below w.heap.size w w' := by
  rcases rowD_any h with ⟨rfl, a, cap, rfl⟩ | ⟨hne, g, cap, rfl, hr⟩
  · exact numPts_none cap a w
  · exact numPts_any es g cap w hr hne hf hl

set_option maxRecDepth 10000 in
set_option maxHeartbeats 4000000 in
theorem points_any (kind : Int) (ts : List TS) (v : Value) (B : Nat) (w : World) (hB : B ≤ w.heap.size) (hv : SlT B w ts v) (hT : TabsIn B w) :
    Calls Tryz.prog 7 #[.int .i64 kind, v] w fun e w' => ∃ (u : Value) (er : Int) (ps : List Tree), e = .returned (.tuple #[u, .int .i64 er]) ∧ IsPoints kind ts er ps ∧ w'.ownsRow w.heap.size 27 6 u ps.length (flatL ps) ∧ Below w.heap.size w w' := by
  have WA := hide (asked_any kind ts v B w hB hv hT)
  have hv' := hide hv
  obtain ⟨_, ad, cap, rfl, _⟩ := hv
  go_enter Tryz.func7, Tryz.ntmps7
  go_wp2_with fail
  refine (unhide WA).mono ?_
  rintro e w1 ⟨rfl, hb1⟩
  have HB1 := hide hb1
  have hz1 : w.heap.size ≤ w1.heap.size := hb1.size
  have V1 := hide ((unhide hv').below (hb1.mono hB))
  clear hb1 WA
  by_cases h0 : askW kind ts = 0
  · have hk := (asked_right h0).1
    have h0' := hide h0
    rw [h0]
    clear h0
    rcases (hk : kind = 2 ∨ kind = 3 ∨ kind = 4) with rfl | rfl | rfl
    · go_wp2
      go_ret2
      exact ⟨_, 0, [boolT false, boolT true], rfl, .truths (unhide h0') rfl, ownsRow_base9 (own_new9 (Nat.le_refl w1.heap.size) #[.int .i64 2, .bool false, .int .i64 0, .int .i64 0, .string ⟨#[]⟩, .slice none 0 0, .int .i64 2, .bool true, .int .i64 0, .int .i64 0, .string ⟨#[]⟩, .slice none 0 0] 6 2 rfl (by unfold maxLen; omega)) hz1, (unhide HB1).alloc hz1 _⟩
    · obtain ⟨hf, hl⟩ := numE_few (unhide h0')
      have ED := hide (edgesD_any ts _ B w1 (by omega) (unhide V1) (fun p hp => (hf p hp).ok) (by omega))
      have hf' := hide hf
      clear hf V1
      go_wp2_with fail
      refine (unhide ED).mono ?_
      rintro e w2 ⟨u, rfl, ho, _, hb2⟩
      have NP := hide (numPts_all (numE ts) u _ w2 ho (unhide hf') (by omega))
      have HB2 := hide ((unhide HB1).trans (hb2.mono hz1))
      have hz2 : w1.heap.size ≤ w2.heap.size := hb2.size
      clear ED ho hb2 hf'
      go_wp2_with fail
      refine (unhide NP).mono ?_
      rintro e w3 ⟨v3, ps, rfl, hp, ho3, hb3⟩
      have HB3 := hide ((unhide HB2).trans (hb3.mono (by omega)))
      have HO3 := hide (ownsRow_base9 ho3 (show w.heap.size ≤ w2.heap.size by omega))
      have HP := hide hp
      clear hb3 ho3 hp NP
      go_wp2
      go_ret2
      exact ⟨v3, 0, ps.map numT, rfl, .numbers ps (unhide h0') rfl (unhide HP), by rw [flatL_num, List.length_map]; exact unhide HO3, unhide HB3⟩
    · obtain ⟨hf, hl⟩ := txtE_few (unhide h0')
      have ED := hide (edgesT_any ts _ B w1 (by omega) (unhide V1) (by omega))
      have hs : ∀ s ∈ txtE ts, s.size ≤ 1000 := fun s hs => by
        have := hf s hs
        unfold wrongT at this
        split at this
        · cases this
        · omega
      have hs' := hide hs
      clear hf V1 hs
      go_wp2_with fail
      refine (unhide ED).mono ?_
      rintro e w2 ⟨u, rfl, ho, _, hb2⟩
      obtain ⟨a2, cap2, rfl, hr⟩ := rowT_any ho
      have HR := hide (haveRoom_any (txtE ts) _ w2 ⟨a2, cap2, rfl, hr⟩ (by omega) (fun s hs => by have := unhide hs' s hs; omega))
      have hr' := hide hr
      have HB2 := hide ((unhide HB1).trans (hb2.mono hz1))
      have hz2 : w1.heap.size ≤ w2.heap.size := hb2.size
      clear ED ho hb2 hr
      go_wp2_with fail
      refine (unhide HR).mono ?_
      rintro e w3 ⟨rfl, rfl⟩
      clear HR
      by_cases hro : roomy (txtE ts) = true
      · have TP := hide (textPts_any (txtE ts) _ w3 ⟨a2, cap2, rfl, unhide hr'⟩ (by omega) (fun s hs => by
          unfold roomy at hro
          rw [List.all_eq_true] at hro
          simpa using hro s hs))
        have HRO := hide hro
        rw [hro]
        clear hro
        go_wp2_with fail
        refine (unhide TP).mono ?_
        rintro e w4 ⟨v4, rfl, ho4, hb4⟩
        have HB4 := hide ((unhide HB2).trans (hb4.mono (by omega)))
        have HO4 := hide (ownsRow_base9 ho4 (show w.heap.size ≤ w3.heap.size by omega))
        clear hb4 ho4 TP
        go_wp2
        go_ret2
        exact ⟨v4, 0, (ptsT (txtE ts)).map txtT, rfl, .texts (unhide h0') rfl (unhide HRO), by rw [flatL_txt, List.length_map]; exact unhide HO4, unhide HB4⟩
      · rw [Bool.not_eq_true] at hro
        have HRO := hide hro
        rw [hro]
        clear hro
        go_wp2
        go_ret2
        exact ⟨_, 4, [], rfl, .much (unhide h0') rfl (unhide HRO), own_nil9 _ _ _ _, unhide HB2⟩
  · have h0' : (askW kind ts != 0) = true := by simp [h0]
    have H0 := hide h0
    clear h0
    go_wp2
    go_ret2
    exact ⟨_, _, [], rfl, .wrong (unhide H0), own_nil9 _ _ _ _, unhide HB1⟩
end Go.Proofs.YtdkgapapdjefdaaGreatDoor

/- likeNumber: its closures. -/
namespace Go.Proofs.YtdkgapapdjefdaaGreatDoor
open Go.RowKit Go.Sort

/-- a row of values that can be read -/
structure RowL (w : World) (g : Nat) (ps : List Tree) : Prop where
  low : g < w.heap.size
  at0 : ∀ i T j v, ps[i]? = some T → (leafC T)[j]? = some v → w.cell? ⟨g, i * 6 + j, none⟩ = some v
theorem RowL.keep {w w' : World} {g : Nat} {ps : List Tree} (h : RowL w g ps) (hb : Below w.heap.size w w') : RowL w' g ps :=
  ⟨Nat.lt_of_lt_of_le h.low hb.size, fun i T j v hi hj => (hb.cell (p := ⟨g, i * 6 + j, none⟩) h.low).trans (h.at0 i T j v hi hj)⟩
theorem leafC_len (T : Tree) : (leafC T).length = 6 := by
  obtain ⟨k, y, c, x, t, ks⟩ := T
  rfl
theorem flatL_at : ∀ (l : List Tree) (i : Nat) (T : Tree) (j : Nat) (v : Value), l[i]? = some T → (leafC T)[j]? = some v → (flatL l)[i * 6 + j]? = some v
  | [], i, T, j, v, h, _ => by simp at h
  | a :: l, 0, T, j, v, h, hj => by
    simp at h
    subst h
    have e : flatL (a :: l) = leafC a ++ flatL l := rfl
    have hl : j < (leafC a).length := (List.getElem?_eq_some_iff.1 hj).1
    rw [e, List.getElem?_append_left (by omega)]
    simpa using hj
  | a :: l, i + 1, T, j, v, h, hj => by
    have := flatL_at l i T j v (by simpa using h) hj
    have e : flatL (a :: l) = leafC a ++ flatL l := rfl
    rw [e, show (i + 1) * 6 + j = (i * 6 + j) + 6 by omega, List.getElem?_append_right (by rw [leafC_len]; omega), leafC_len]
    simpa using this
theorem rowL_of {w : World} {base : Nat} {u : Value} {ps : List Tree} (h : w.ownsRow base 27 6 u ps.length (flatL ps)) (hne : ps ≠ []) : ∃ g cap, u = .slice (some ⟨g, 0, none⟩) ps.length cap ∧ base ≤ g ∧ RowL w g ps := by
  rcases h.2 with ⟨_, hz⟩ | ⟨g, cap, cur, rfl, hbase, hgb, r1, r2, r3, r4⟩
  · exact absurd (List.eq_nil_of_length_eq_zero hz) hne
  · refine ⟨g, cap, rfl, hbase, (Array.getElem?_eq_some_iff.1 hgb).1, ?_⟩
    intro i T j v hi hj
    have hil : i < ps.length := (List.getElem?_eq_some_iff.1 hi).1
    have hjl : j < (leafC T).length := (List.getElem?_eq_some_iff.1 hj).1
    rw [leafC_len] at hjl
    have := flatL_at ps i T j v hi hj
    rw [← r4, List.getElem?_take_of_lt (by omega)] at this
    simp only [World.cell?, hgb]
    simpa using this

set_option maxHeartbeats 4000000 in
theorem edge_any (l : List (Int × Int)) (i g cap p : Nat) (e : Int × Int) (w : World) (he : l[2 * i + 1]? = some e) (hl : l.length ≤ 2000001) (hr : RowL w g (l.map numT)) (hp : w.cell? ⟨p, 0, none⟩ = some (.slice (some ⟨g, 0, none⟩) l.length cap)) :
    Calls Tryz.prog 48 #[.int .i64 (i : Int), .pointer (some ⟨p, 0, none⟩)] w fun r w' => r = .returned (.agg #[.int .i64 e.1, .int .i64 e.2]) ∧ Ahd w w' := by
  have hi : 2 * i + 1 < l.length := (List.getElem?_eq_some_iff.1 he).1
  have hT : (l.map numT)[2 * i + 1]? = some (numT e) := by rw [List.getElem?_map, he]; rfl
  have c2 : w.cell? ⟨g, (2 * i + 1) * 6 + 2, none⟩ = some (.int .i64 e.1) := hr.at0 _ _ 2 _ hT rfl
  have c3 : w.cell? ⟨g, (2 * i + 1) * 6 + 3, none⟩ = some (.int .i64 e.2) := hr.at0 _ _ 3 _ hT rfl
  have lg := hr.low
  have lp := lt_of_cell hp
  obtain ⟨k, hk⟩ : ∃ k, k = 2 * i + 1 := ⟨_, rfl⟩
  rw [← hk] at c2 c3 hi
  have hk1 : 2 * (i : Int) + 1 = (k : Int) := by omega
  have hk2 : (k : Int) < (l.length : Int) := by omega
  clear he hT hr hk
  go_enter Tryz.func48, Tryz.ntmps48
  go_wp2
  refine bodyPost_ret (v := .agg #[.int .i64 e.1, .int .i64 e.2]) (by simp [results, Tryz.results48, go_sem]) rfl ⟨rfl, (Ahd.refl _).alloc _⟩
theorem enterEdge : ∀ args w, (callFunc 48 args).run Tryz.prog w = .ok (.enter 48 args) w := enters_of Tryz.func48 (by kernel_rfl) rfl

set_option maxHeartbeats 4000000 in
theorem notBelow_any (l : List (Int × Int)) (i g cap p q r : Nat) (e d : Int × Int) (w : World) (he : l[2 * i + 1]? = some e) (hl : l.length ≤ 2000001) (hke : Dm.wrongN e.1 e.2 = 0) (hkd : Dm.wrongN d.1 d.2 = 0) (hr : RowL w g (l.map numT)) (hp : w.cell? ⟨p, 0, none⟩ = some (.slice (some ⟨g, 0, none⟩) l.length cap))
    (hq : w.cell? ⟨q, 0, none⟩ = some (.func (.func 48) #[] #[.pointer (some ⟨p, 0, none⟩)])) (hd : BxD w r d) :
    Calls Tryz.prog 50 #[.int .i64 (i : Int), .pointer (some ⟨q, 0, none⟩), .pointer (some ⟨r, 0, none⟩)] w fun z w' => z = .returned (.bool (decide (vR d ≤ vR e))) ∧ Ahd w w' := by
  have EG := hide (fun wx (h : Ahd w wx) => edge_any l i g cap p e wx he hl (hr.keep h.b) ((h.b.cell (p := ⟨p, 0, none⟩) (lt_of_cell hp)).trans hp))
  have CM := hide (fun wx => cmpNums_ahd e.1 e.2 d.1 d.2 wx hke hkd)
  have d0 := hd.c0
  have d1 := hd.c1
  have ld := lt_of_cell d0
  have lq := lt_of_cell hq
  have hsg : decide (0 ≤ Dm.sgn (Dm.V e.1 e.2 - Dm.V d.1 d.2)) = decide (vR d ≤ vR e) := by
    have := Dm.sgn_cases (Dm.V e.1 e.2 - Dm.V d.1 d.2)
    unfold vR
    congr 1
    apply propext
    omega
  have HS := hide hsg
  have eE := enterEdge
  clear hsg he hke hkd hr hp hd
  go_enter Tryz.func50, Tryz.ntmps50
  go_wp2_with fail
  go_region_with (first
    | (go_at_call 17; refine (unhide CM _).mono ?_; rintro z w2 ⟨rfl, h2⟩)
    | (refine (unhide EG _ (Ahd.refl w).drew).mono ?_; rintro z w1 ⟨rfl, h1⟩
       have f0 : w1.cell? ⟨r, 0, none⟩ = some (.int .i64 d.1) := (h1.b.cell (p := ⟨r, 0, none⟩) ld).trans d0
       have f1 : w1.cell? ⟨r, 1, none⟩ = some (.int .i64 d.2) := (h1.b.cell (p := ⟨r, 1, none⟩) ld).trans d1))
  all_goals
    go_wp2
    go_ret
    refine ⟨?_, ((Ahd.refl w).drew.trans h1).trans h2⟩
    rw [← unhide HS]
    rfl
theorem enterNotBelow : ∀ args w, (callFunc 50 args).run Tryz.prog w = .ok (.enter 50 args) w := enters_of Tryz.func50 (by kernel_rfl) rfl
end Go.Proofs.YtdkgapapdjefdaaGreatDoor
