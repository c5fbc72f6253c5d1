/- Utf8 of the reference, plain: which bytes are no rune. -/
import Derived.Test.YtbdgngfpofohpaaDoorG01
import Derived.Lib.DecodeN
import Derived.Lib.ValidLaws
namespace Go.Proofs.YtbdgngfpofohpaaDoor
open Go.RowKit

theorem toList_at2 (s : ByteArray) (k : Nat) (h : k < s.size) : s.data.toList[k]? = some s[k] := by
  have : s.data.toList.length = s.size := rfl
  rw [List.getElem?_eq_getElem (by omega)]
  rfl
theorem getD_at2 (s : ByteArray) (k : Nat) (h : k < s.size) : s.data.toList.getD k 0 = s[k] := by
  rw [List.getD_eq_getElem?_getD, toList_at2 s k h]; rfl
theorem drop_ne2 {s : ByteArray} {pos : Nat} (h : pos < s.size) : s.data.toList.drop pos ≠ [] := by
  intro e; have := congrArg List.length e; rw [List.length_drop, ← Lib.size_eq] at this; simp at this; omega
theorem wd1 {n b0 b1 b2 b3 : Nat} (h0 : 192 ≤ b0) (h1 : b0 < 224) (hn : 1 < n) (h2 : 128 ≤ b1) (h3 : b1 < 192) (hc : (128 : Int) ≤ ((b0 : Int) - 192) * 64 + (b1 : Int) - 128) : (Lib.decodeN n b0 b1 b2 b3).2 = 2 := by
  unfold Lib.decodeN
  rw [if_neg (by omega), if_pos ⟨by omega, hn, by omega⟩, if_pos (by omega)]
theorem wd2 {n b0 b1 b2 b3 : Nat} (h0 : 224 ≤ b0) (h1 : b0 < 240) (hn : 2 < n) (h2 : 128 ≤ b1) (h3 : b1 < 192) (h4 : 128 ≤ b2) (h5 : b2 < 192) (hc : (2048 : Int) ≤ (((b0 : Int) - 224) * 64 + (b1 : Int) - 128) * 64 + (b2 : Int) - 128) (hs : (((b0 : Int) - 224) * 64 + (b1 : Int) - 128) * 64 + (b2 : Int) - 128 < 55296 ∨ 57344 ≤ (((b0 : Int) - 224) * 64 + (b1 : Int) - 128) * 64 + (b2 : Int) - 128) : (Lib.decodeN n b0 b1 b2 b3).2 = 3 := by
  unfold Lib.decodeN
  rw [if_neg (by omega), if_neg (by omega), if_pos ⟨by omega, ⟨by omega, by omega⟩, hn, by omega⟩, if_pos (by omega)]
theorem wd3 {n b0 b1 b2 b3 : Nat} (h0 : 240 ≤ b0) (h1 : b0 < 248) (hn : 3 < n) (h2 : 128 ≤ b1) (h3 : b1 < 192) (h4 : 128 ≤ b2) (h5 : b2 < 192) (h6 : 128 ≤ b3) (h7 : b3 < 192) (hc : (65536 : Int) ≤ ((((b0 : Int) - 240) * 64 + (b1 : Int) - 128) * 64 + (b2 : Int) - 128) * 64 + (b3 : Int) - 128) (hs : ((((b0 : Int) - 240) * 64 + (b1 : Int) - 128) * 64 + (b2 : Int) - 128) * 64 + (b3 : Int) - 128 ≤ 1114111) : (Lib.decodeN n b0 b1 b2 b3).2 = 4 := by
  unfold Lib.decodeN
  rw [if_neg (by omega), if_neg (by omega), if_neg (by omega), if_pos ⟨by omega, ⟨by omega, by omega⟩, ⟨by omega, by omega⟩, hn, by omega⟩, if_pos (by omega)]

/-- the byte at a place -/
def bt (s : ByteArray) (i : Nat) : Nat := (s.data.toList.getD i 0).toNat
theorem bt_at (s : ByteArray) (i : Nat) (h : i < s.size) : bt s i = s[i].toNat := by unfold bt; rw [getD_at2 s i h]
theorem bt_lt (s : ByteArray) (i : Nat) : bt s i < 256 := (s.data.toList.getD i 0).toNat_lt
theorem dec_bt (s : ByteArray) (i : Nat) (_h : i < s.size) : Lib.decodeL (s.data.toList.drop i) = Lib.decodeN (s.size - i) (bt s i) (bt s (i + 1)) (bt s (i + 2)) (bt s (i + 3)) := by
  rw [Lib.decodeL_N, List.length_drop, ← Lib.size_eq]
  unfold bt
  simp only [List.getD_eq_getElem?_getD, List.getElem?_drop, Nat.add_zero]
/-- one rune on -/
theorem val_on {s : ByteArray} {i k : Nat} (h : i < s.size) (hk : 2 ≤ k) (hw : (Lib.decodeN (s.size - i) (bt s i) (bt s (i + 1)) (bt s (i + 2)) (bt s (i + 3))).2 = k) : Lib.validD (s.data.toList.drop i) = Lib.validD (s.data.toList.drop (i + k)) := by
  rw [← dec_bt s i h] at hw
  rw [Lib.validD_step _ (drop_ne2 h), if_neg (by rintro ⟨_, b⟩; omega), hw, List.drop_drop]
theorem val_on1 {s : ByteArray} {i : Nat} (h : i < s.size) (hb : bt s i < 128) : Lib.validD (s.data.toList.drop i) = Lib.validD (s.data.toList.drop (i + 1)) := by
  have hd := dec_bt s i h
  rw [Lib.decodeN_ascii _ _ _ _ _ hb] at hd
  rw [Lib.validD_step _ (drop_ne2 h), hd, if_neg (by rintro ⟨a, _⟩; simp only at a; omega), List.drop_drop]

/-- the number that the bytes tell -/
def cvF (c0 b1 b2 b3 : Int) : Nat → Int
  | 0 => c0
  | 1 => c0 * 64 + b1 - 128
  | 2 => (c0 * 64 + b1 - 128) * 64 + b2 - 128
  | _ => ((c0 * 64 + b1 - 128) * 64 + b2 - 128) * 64 + b3 - 128
/-- what the inner loop knows after j bytes -/
structure UJ (s : ByteArray) (i n j : Nat) (c0 c : Int) : Prop where
  jn : j ≤ n
  cv : c = cvF c0 (bt s (i + 1) : Int) (bt s (i + 2) : Int) (bt s (i + 3) : Int) j
  b1 : 1 ≤ j → 128 ≤ bt s (i + 1) ∧ bt s (i + 1) < 192
  b2 : 2 ≤ j → 128 ≤ bt s (i + 2) ∧ bt s (i + 2) < 192
  b3 : 3 ≤ j → 128 ≤ bt s (i + 3) ∧ bt s (i + 3) < 192
  lo : 0 ≤ c
  h0 : j = 0 → c ≤ 31
  h1 : j = 1 → c ≤ 2047
  h2 : j = 2 → c ≤ 131071
  h3 : j = 3 → c ≤ 8388607
theorem UJ.start {s : ByteArray} {i n : Nat} {c0 : Int} (h : 0 ≤ c0) (h31 : c0 ≤ 31) : UJ s i n 0 c0 c0 :=
  ⟨Nat.zero_le _, rfl, fun q => absurd q (by omega), fun q => absurd q (by omega), fun q => absurd q (by omega), h, fun _ => h31, fun q => absurd q (by omega), fun q => absurd q (by omega), fun q => absurd q (by omega)⟩
theorem UJ.step {s : ByteArray} {i n j : Nat} {c0 c : Int} (h : UJ s i n j c0 c) (hj : j < n) (hn : n ≤ 3) (hd1 : 128 ≤ bt s (i + (j + 1))) (hd2 : bt s (i + (j + 1)) < 192) : UJ s i n (j + 1) c0 (c * 64 + (bt s (i + (j + 1)) : Int) - 128) := by
  have lo := h.lo
  have cv := h.cv
  have j3 : j = 0 ∨ j = 1 ∨ j = 2 := by omega
  rcases j3 with rfl | rfl | rfl
  · have := h.h0 rfl
    refine ⟨by omega, by rw [cv]; rfl, fun _ => ⟨hd1, hd2⟩, fun q => absurd q (by omega), fun q => absurd q (by omega), by omega, fun q => absurd q (by omega), fun _ => by omega, fun q => absurd q (by omega), fun q => absurd q (by omega)⟩
  · have := h.h1 rfl
    refine ⟨by omega, by rw [cv]; rfl, fun _ => h.b1 (by omega), fun _ => ⟨hd1, hd2⟩, fun q => absurd q (by omega), by omega, fun q => absurd q (by omega), fun q => absurd q (by omega), fun _ => by omega, fun q => absurd q (by omega)⟩
  · have := h.h2 rfl
    refine ⟨by omega, by rw [cv]; rfl, fun _ => h.b1 (by omega), fun _ => h.b2 (by omega), fun _ => ⟨hd1, hd2⟩, by omega, fun q => absurd q (by omega), fun q => absurd q (by omega), fun q => absurd q (by omega), fun _ => by omega⟩
theorem UJ.top {s : ByteArray} {i n j : Nat} {c0 c : Int} (h : UJ s i n j c0 c) (hn : n ≤ 3) : c ≤ 8388607 := by
  have := h.jn
  rcases (by omega : j = 0 ∨ j = 1 ∨ j = 2 ∨ j = 3) with q | q | q | q
  · have := h.h0 q; omega
  · have := h.h1 q; omega
  · have := h.h2 q; omega
  · have := h.h3 q; omega
/-- the rune is right: its bytes may be passed -/
theorem UJ.done {s : ByteArray} {i n : Nat} {c0 c : Int} (h : UJ s i n n c0 c) (hi : i + n < s.size) (hk : (n = 1 ∧ c0 = (bt s i : Int) - 192 ∧ 192 ≤ bt s i ∧ bt s i < 224 ∧ 128 ≤ c) ∨ (n = 2 ∧ c0 = (bt s i : Int) - 224 ∧ 224 ≤ bt s i ∧ bt s i < 240 ∧ 2048 ≤ c ∧ (c < 55296 ∨ 57344 ≤ c)) ∨ (n = 3 ∧ c0 = (bt s i : Int) - 240 ∧ 240 ≤ bt s i ∧ bt s i < 248 ∧ 65536 ≤ c ∧ c ≤ 1114111)) : Lib.validD (s.data.toList.drop i) = Lib.validD (s.data.toList.drop (i + (n + 1))) := by
  have cv := h.cv
  rcases hk with ⟨rfl, rfl, a, b, d⟩ | ⟨rfl, rfl, a, b, d, e⟩ | ⟨rfl, rfl, a, b, d, e⟩
  · obtain ⟨p1, p2⟩ := h.b1 (by omega)
    exact val_on (by omega) (by omega) (wd1 a b (by omega) p1 p2 (by rw [cv] at d; exact d))
  · obtain ⟨p1, p2⟩ := h.b1 (by omega)
    obtain ⟨p3, p4⟩ := h.b2 (by omega)
    exact val_on (by omega) (by omega) (wd2 a b (by omega) p1 p2 p3 p4 (by rw [cv] at d; exact d) (by rw [cv] at e; exact e))
  · obtain ⟨p1, p2⟩ := h.b1 (by omega)
    obtain ⟨p3, p4⟩ := h.b2 (by omega)
    obtain ⟨p5, p6⟩ := h.b3 (by omega)
    exact val_on (by omega) (by omega) (wd3 a b (by omega) p1 p2 p3 p4 p5 p6 (by rw [cv] at d; exact d) (by rw [cv] at e; exact e))

/-- these bytes are no rune -/
theorem dec_bad {n b0 b1 b2 b3 : Nat} (h0 : 128 ≤ b0) (h1 : b0 < 256) (c1 : b1 < 256) (c2 : b2 < 256) (c3 : b3 < 256)
    (n2 : ¬ (192 ≤ b0 ∧ b0 < 224 ∧ 1 < n ∧ 128 ≤ b1 ∧ b1 < 192 ∧ (128 : Int) ≤ ((b0 : Int) - 192) * 64 + (b1 : Int) - 128))
    (n3 : ¬ (224 ≤ b0 ∧ b0 < 240 ∧ 2 < n ∧ 128 ≤ b1 ∧ b1 < 192 ∧ 128 ≤ b2 ∧ b2 < 192 ∧ (2048 : Int) ≤ (((b0 : Int) - 224) * 64 + (b1 : Int) - 128) * 64 + (b2 : Int) - 128 ∧ ((((b0 : Int) - 224) * 64 + (b1 : Int) - 128) * 64 + (b2 : Int) - 128 < 55296 ∨ 57344 ≤ (((b0 : Int) - 224) * 64 + (b1 : Int) - 128) * 64 + (b2 : Int) - 128)))
    (n4 : ¬ (240 ≤ b0 ∧ b0 < 248 ∧ 3 < n ∧ 128 ≤ b1 ∧ b1 < 192 ∧ 128 ≤ b2 ∧ b2 < 192 ∧ 128 ≤ b3 ∧ b3 < 192 ∧ (65536 : Int) ≤ ((((b0 : Int) - 240) * 64 + (b1 : Int) - 128) * 64 + (b2 : Int) - 128) * 64 + (b3 : Int) - 128 ∧ ((((b0 : Int) - 240) * 64 + (b1 : Int) - 128) * 64 + (b2 : Int) - 128) * 64 + (b3 : Int) - 128 ≤ 1114111)) :
    Lib.decodeN n b0 b1 b2 b3 = (65533, 1) := by
  unfold Lib.decodeN
  rw [if_neg (by omega)]
  split
  · rename_i q
    rw [if_neg]
    intro r
    exact n2 ⟨by omega, by omega, q.2.1, by omega, by omega, by omega⟩
  · split
    · rename_i q
      rw [if_neg]
      intro r
      exact n3 ⟨by omega, by omega, q.2.2.1, by omega, by omega, by omega, by omega, by omega, by omega⟩
    · split
      · rename_i q
        rw [if_neg]
        intro r
        exact n4 ⟨by omega, by omega, q.2.2.2.1, by omega, by omega, by omega, by omega, by omega, by omega, by omega, by omega⟩
      · rfl
theorem bad_at {s : ByteArray} {i : Nat} (h : i < s.size) (hw : Lib.decodeN (s.size - i) (bt s i) (bt s (i + 1)) (bt s (i + 2)) (bt s (i + 3)) = (65533, 1)) : Lib.validD (s.data.toList.drop i) = false := by
  rw [← dec_bt s i h] at hw
  rw [Lib.validD_step _ (drop_ne2 h), hw, if_pos ⟨rfl, rfl⟩]
/-- one of the bytes behind the first one is none that goes on -/
theorem bad_cont {s : ByteArray} {i N j : Nat} {b : Nat} (h : i < s.size) (hb : b = bt s i) (hN : (N = 1 ∧ 192 ≤ b ∧ b < 224) ∨ (N = 2 ∧ 224 ≤ b ∧ b < 240) ∨ (N = 3 ∧ 240 ≤ b ∧ b < 248)) (hj : j < N) (hd : bt s (i + (j + 1)) < 128 ∨ 192 ≤ bt s (i + (j + 1))) : Lib.validD (s.data.toList.drop i) = false := by
  subst hb
  have l0 := bt_lt s i
  have l1 := bt_lt s (i + 1)
  have l2 := bt_lt s (i + 2)
  have l3 := bt_lt s (i + 3)
  refine bad_at h (dec_bad (by omega) l0 l1 l2 l3 ?_ ?_ ?_)
  · rintro ⟨a, b, c, d, e, f⟩
    obtain rfl : j = 0 := by omega
    simp only [Nat.zero_add] at hd
    omega
  · rintro ⟨a, b, c, d, e, f, g, k⟩
    have : j = 0 ∨ j = 1 := by omega
    rcases this with rfl | rfl
    · simp only [Nat.zero_add] at hd; omega
    · simp only [Nat.reduceAdd] at hd; omega
  · rintro ⟨a, b, c, d, e, f, g, k, m, o⟩
    have : j = 0 ∨ j = 1 ∨ j = 2 := by omega
    rcases this with rfl | rfl | rfl
    · simp only [Nat.zero_add] at hd; omega
    · simp only [Nat.reduceAdd] at hd; omega
    · simp only [Nat.reduceAdd] at hd; omega
/-- too short -/
theorem bad_short {s : ByteArray} {i N : Nat} {b : Nat} (h : i < s.size) (hb : b = bt s i) (hN : (N = 1 ∧ 192 ≤ b ∧ b < 224) ∨ (N = 2 ∧ 224 ≤ b ∧ b < 240) ∨ (N = 3 ∧ 240 ≤ b ∧ b < 248)) (hs : s.size ≤ i + N) : Lib.validD (s.data.toList.drop i) = false := by
  subst hb
  exact bad_at h (dec_bad (by omega) (bt_lt s i) (bt_lt s _) (bt_lt s _) (bt_lt s _) (by omega) (by omega) (by omega))
theorem bad_first {s : ByteArray} {i : Nat} {b : Nat} (h : i < s.size) (hb : b = bt s i) (hx : (128 ≤ b ∧ b < 192) ∨ 248 ≤ b) : Lib.validD (s.data.toList.drop i) = false := by
  subst hb
  exact bad_at h (dec_bad (by omega) (bt_lt s i) (bt_lt s _) (bt_lt s _) (bt_lt s _) (by omega) (by omega) (by omega))
/-- the number is none of a rune, or could be told shorter -/
theorem UJ.bad {s : ByteArray} {i n : Nat} {b : Nat} {c0 c : Int} (h : UJ s i n n c0 c) (hi : i < s.size) (hb : b = bt s i)
    (hk : (n = 1 ∧ c0 = (b : Int) - 192 ∧ 192 ≤ b ∧ b < 224 ∧ c < 128) ∨ (n = 2 ∧ c0 = (b : Int) - 224 ∧ 224 ≤ b ∧ b < 240 ∧ (c < 2048 ∨ (55296 ≤ c ∧ c < 57344))) ∨ (n = 3 ∧ c0 = (b : Int) - 240 ∧ 240 ≤ b ∧ b < 248 ∧ (c < 65536 ∨ 1114111 < c))) : Lib.validD (s.data.toList.drop i) = false := by
  subst hb
  have cv := h.cv
  have l0 := bt_lt s i
  have l1 := bt_lt s (i + 1)
  have l2 := bt_lt s (i + 2)
  have l3 := bt_lt s (i + 3)
  rcases hk with ⟨rfl, rfl, a, b, d⟩ | ⟨rfl, rfl, a, b, d⟩ | ⟨rfl, rfl, a, b, d⟩
  · simp only [cvF] at cv
    exact bad_at hi (dec_bad (by omega) l0 l1 l2 l3 (by omega) (by omega) (by omega))
  · simp only [cvF] at cv
    exact bad_at hi (dec_bad (by omega) l0 l1 l2 l3 (by omega) (by omega) (by omega))
  · simp only [cvF] at cv
    exact bad_at hi (dec_bad (by omega) l0 l1 l2 l3 (by omega) (by omega) (by omega))
end Go.Proofs.YtbdgngfpofohpaaDoor

/- Walks: Utf8 of the reference, exactly (written by gen_ub.py). -/
namespace Go.Proofs.YtbdgngfpofohpaaDoor
open Go.RowKit

set_option maxHeartbeats 4000000 in
set_option maxRecDepth 100000 in
theorem utf8_is (s : ByteArray) (w : World) (hs : s.size ≤ 4000) :
    Calls Tryd.prog 36 #[.string s] w fun e w' => e = .returned (.bool (Lib.validD s.data.toList)) ∧ w' = w := by
  have hix : ∀ (k : Nat), k < s.size → ∀ W, (Instr.index 9 (.string s) (.int .i64 (k : Int))).run Tryd.prog W = .ok (.int .u8 (bt s k : Int)) W := by
    intro k hk W
    have e : ∀ h, s[((k : Int)).toNat]'h = s[k] := fun h => by congr 1
    rw [run_index_string _ _ _ _ _ Tryd.underlying9, dif_pos ⟨by omega, by omega⟩, e, bt_at s k hk]
  have hix2 : ∀ (k q : Nat), k + q < s.size → ∀ W, (Instr.index 9 (.string s) (.int .i64 ((k : Int) + (q : Int)))).run Tryd.prog W = .ok (.int .u8 (bt s (k + q) : Int)) W := by
    intro k q hk W
    have e : ∀ h, s[((k : Int) + (q : Int)).toNat]'h = s[k + q] := fun h => by congr 1
    rw [run_index_string _ _ _ _ _ Tryd.underlying9, dif_pos ⟨by omega, by omega⟩, e, bt_at s (k + q) hk]
  replace hix := hide hix
  replace hix2 := hide hix2
  go_enter Tryd.func36, Tryd.ntmps36
  go_wp2
  go_loop [3] (fun i => ∃ k : Nat, k ≤ s.size ∧ i = .int .i64 (k : Int) ∧ Hid (Lib.validD (s.data.toList.drop k) = Lib.validD s.data.toList)) (fun i => s.size - (intOf i).toNat)
  case atStart => exact ⟨0, Nat.zero_le _, rfl, hide (by simp)⟩
  case round =>
    obtain ⟨k, hk, rfl, HV⟩ := hrel
    by_cases hlt : k < s.size
    · have hltI : (k : Int) < (s.size : Int) := by omega
      have h0 := unhide hix k hlt
      have h256 := bt_lt s k
      have ON1 := hide (fun q => val_on1 hlt q)
      obtain ⟨b, hb⟩ : ∃ b, b = bt s k := ⟨_, rfl⟩
      have HB := hide hb
      rw [← hb] at h0 h256 ON1
      clear hb
      by_cases r1 : (b : Int) < 128
      · go_wp2
        go_round
        case rel => exact ⟨k + 1, by omega, by go_num, hide ((unhide ON1 (by omega)).symm.trans (unhide HV))⟩
        case measure => simp [intOf]; omega
      clear ON1
      by_cases r2 : (b : Int) < 192
      · have g1 : ¬ (192 : Int) ≤ (b : Int) := by omega
        have g2 : ¬ (224 : Int) ≤ (b : Int) := by omega
        have g3 : ¬ (240 : Int) ≤ (b : Int) := by omega
        have HF := hide (bad_first hlt (unhide HB) (.inl ⟨by omega, by omega⟩))
        go_wp2
        go_ret
        exact ⟨congrArg (fun z => Ending.returned (.bool z)) ((unhide HF).symm.trans (unhide HV)), rfl⟩
      by_cases t1 : (b : Int) < 224
      · have g1 : (192 : Int) ≤ (b : Int) := by omega
        by_cases hin : (s.size : Int) ≤ (k : Int) + 1
        · have HF := hide (bad_short (N := 1) hlt (unhide HB) (.inl ⟨rfl, by omega, by omega⟩) (by omega))
          go_wp2
          go_ret
          exact ⟨congrArg (fun z => Ending.returned (.bool z)) ((unhide HF).symm.trans (unhide HV)), rfl⟩
        have ST := hide (UJ.start (s := s) (i := k) (n := 1) (c0 := (b : Int) - 192) (by omega) (by omega))
        go_wp2
        go_loop [4, 7] (fun c q => ∃ (cc : Int) (j : Nat), j ≤ 1 ∧ c = .int .i64 cc ∧ q = .int .i64 ((j + 1 : Nat) : Int) ∧ Hid (UJ s k 1 j ((b : Int) - 192) cc)) (fun _ q => 2 - (intOf q).toNat)
        case atStart => exact ⟨_, 0, by omega, rfl, rfl, ST⟩
        case round =>
          obtain ⟨cc, j, hj, rfl, rfl, HU⟩ := hrel
          clear ST
          have c1 := (unhide HU).lo
          have c2 := (unhide HU).top (by omega)
          by_cases hq : ((j + 1 : Nat) : Int) ≤ 1
          · have h1 := unhide hix2 k (j + 1) (by omega)
            have d256 := bt_lt s (k + (j + 1))
            have SU := hide (fun a c => (unhide HU).step (by omega) (by omega) a c)
            have HX := hide (fun q => bad_cont (N := 1) (j := j) hlt (unhide HB) (.inl ⟨rfl, by omega, by omega⟩) (by omega) q)
            clear HU
            generalize bt s (k + (j + 1)) = d at *
            obtain ⟨q, hqj⟩ : ∃ q, q = j + 1 := ⟨_, rfl⟩
            have HQ := hide hqj
            rw [← hqj] at h1 hq
            simp only [← hqj]
            have hqB : q ≤ 4 := by omega
            clear hqj h0
            by_cases d1 : (d : Int) < 128
            · have HF := hide (unhide HX (.inl (by omega)))
              go_wp2
              go_ret
              exact ⟨congrArg (fun z => Ending.returned (.bool z)) ((unhide HF).symm.trans (unhide HV)), rfl⟩
            by_cases d2 : (192 : Int) ≤ (d : Int)
            · have HF := hide (unhide HX (.inr (by omega)))
              go_wp2
              go_ret
              exact ⟨congrArg (fun z => Ending.returned (.bool z)) ((unhide HF).symm.trans (unhide HV)), rfl⟩
            clear HX
            go_wp2
            go_round
            case rel => exact ⟨_, j + 1, by have := unhide HQ; omega, rfl, by rw [unhide HQ]; go_num, hide (unhide SU (by omega) (by omega))⟩
            case measure => simp [intOf]; have := unhide HQ; omega
          · obtain rfl : j = 1 := by omega
            by_cases p1 : cc < 128
            · have HF := hide ((unhide HU).bad hlt (unhide HB) (.inl ⟨rfl, rfl, by omega, by omega, by omega⟩))
              go_wp2
              go_ret
              exact ⟨congrArg (fun z => Ending.returned (.bool z)) ((unhide HF).symm.trans (unhide HV)), rfl⟩
            by_cases p2 : (1114111 : Int) < cc
            · exfalso
              have := (unhide HU).h1 rfl
              omega
            by_cases p3 : (55296 : Int) ≤ cc
            · by_cases p4 : cc < (57344 : Int)
              · exfalso
                have := (unhide HU).h1 rfl
                omega
              · go_wp2
                go_round
                case rel => exact ⟨k + 2, by omega, by go_num, hide (((unhide HU).done (by omega) (.inl ⟨rfl, by rw [unhide HB], by have := unhide HB; omega, by have := unhide HB; omega, by omega⟩)).symm.trans (unhide HV))⟩
                case measure => simp [intOf]; omega
            · go_wp2
              go_round
              case rel => exact ⟨k + 2, by omega, by go_num, hide (((unhide HU).done (by omega) (.inl ⟨rfl, by rw [unhide HB], by have := unhide HB; omega, by have := unhide HB; omega, by omega⟩)).symm.trans (unhide HV))⟩
              case measure => simp [intOf]; omega
      by_cases t2 : (b : Int) < 240
      · have g1 : (224 : Int) ≤ (b : Int) := by omega
        have g2 : (192 : Int) ≤ (b : Int) := by omega
        by_cases hin : (s.size : Int) ≤ (k : Int) + 2
        · have HF := hide (bad_short (N := 2) hlt (unhide HB) (.inr (.inl ⟨rfl, by omega, by omega⟩)) (by omega))
          go_wp2
          go_ret
          exact ⟨congrArg (fun z => Ending.returned (.bool z)) ((unhide HF).symm.trans (unhide HV)), rfl⟩
        have ST := hide (UJ.start (s := s) (i := k) (n := 2) (c0 := (b : Int) - 224) (by omega) (by omega))
        go_wp2
        go_loop [4, 7] (fun c q => ∃ (cc : Int) (j : Nat), j ≤ 2 ∧ c = .int .i64 cc ∧ q = .int .i64 ((j + 1 : Nat) : Int) ∧ Hid (UJ s k 2 j ((b : Int) - 224) cc)) (fun _ q => 3 - (intOf q).toNat)
        case atStart => exact ⟨_, 0, by omega, rfl, rfl, ST⟩
        case round =>
          obtain ⟨cc, j, hj, rfl, rfl, HU⟩ := hrel
          clear ST
          have c1 := (unhide HU).lo
          have c2 := (unhide HU).top (by omega)
          by_cases hq : ((j + 1 : Nat) : Int) ≤ 2
          · have h1 := unhide hix2 k (j + 1) (by omega)
            have d256 := bt_lt s (k + (j + 1))
            have SU := hide (fun a c => (unhide HU).step (by omega) (by omega) a c)
            have HX := hide (fun q => bad_cont (N := 2) (j := j) hlt (unhide HB) (.inr (.inl ⟨rfl, by omega, by omega⟩)) (by omega) q)
            clear HU
            generalize bt s (k + (j + 1)) = d at *
            obtain ⟨q, hqj⟩ : ∃ q, q = j + 1 := ⟨_, rfl⟩
            have HQ := hide hqj
            rw [← hqj] at h1 hq
            simp only [← hqj]
            have hqB : q ≤ 4 := by omega
            clear hqj h0
            by_cases d1 : (d : Int) < 128
            · have HF := hide (unhide HX (.inl (by omega)))
              go_wp2
              go_ret
              exact ⟨congrArg (fun z => Ending.returned (.bool z)) ((unhide HF).symm.trans (unhide HV)), rfl⟩
            by_cases d2 : (192 : Int) ≤ (d : Int)
            · have HF := hide (unhide HX (.inr (by omega)))
              go_wp2
              go_ret
              exact ⟨congrArg (fun z => Ending.returned (.bool z)) ((unhide HF).symm.trans (unhide HV)), rfl⟩
            clear HX
            go_wp2
            go_round
            case rel => exact ⟨_, j + 1, by have := unhide HQ; omega, rfl, by rw [unhide HQ]; go_num, hide (unhide SU (by omega) (by omega))⟩
            case measure => simp [intOf]; have := unhide HQ; omega
          · obtain rfl : j = 2 := by omega
            by_cases p1 : cc < 2048
            · have HF := hide ((unhide HU).bad hlt (unhide HB) (.inr (.inl ⟨rfl, rfl, by omega, by omega, .inl (by omega)⟩)))
              go_wp2
              go_ret
              exact ⟨congrArg (fun z => Ending.returned (.bool z)) ((unhide HF).symm.trans (unhide HV)), rfl⟩
            by_cases p2 : (1114111 : Int) < cc
            · exfalso
              have := (unhide HU).h2 rfl
              omega
            by_cases p3 : (55296 : Int) ≤ cc
            · by_cases p4 : cc < (57344 : Int)
              · have HF := hide ((unhide HU).bad hlt (unhide HB) (.inr (.inl ⟨rfl, rfl, by omega, by omega, .inr ⟨by omega, by omega⟩⟩)))
                go_wp2
                go_ret
                exact ⟨congrArg (fun z => Ending.returned (.bool z)) ((unhide HF).symm.trans (unhide HV)), rfl⟩
              · go_wp2
                go_round
                case rel => exact ⟨k + 3, by omega, by go_num, hide (((unhide HU).done (by omega) (.inr (.inl ⟨rfl, by rw [unhide HB], by have := unhide HB; omega, by have := unhide HB; omega, by omega, by omega⟩))).symm.trans (unhide HV))⟩
                case measure => simp [intOf]; omega
            · go_wp2
              go_round
              case rel => exact ⟨k + 3, by omega, by go_num, hide (((unhide HU).done (by omega) (.inr (.inl ⟨rfl, by rw [unhide HB], by have := unhide HB; omega, by have := unhide HB; omega, by omega, by omega⟩))).symm.trans (unhide HV))⟩
              case measure => simp [intOf]; omega
      by_cases t3 : (b : Int) < 248
      · have g1 : (240 : Int) ≤ (b : Int) := by omega
        have g2 : (192 : Int) ≤ (b : Int) := by omega
        have g3 : (224 : Int) ≤ (b : Int) := by omega
        by_cases hin : (s.size : Int) ≤ (k : Int) + 3
        · have HF := hide (bad_short (N := 3) hlt (unhide HB) (.inr (.inr ⟨rfl, by omega, by omega⟩)) (by omega))
          go_wp2
          go_ret
          exact ⟨congrArg (fun z => Ending.returned (.bool z)) ((unhide HF).symm.trans (unhide HV)), rfl⟩
        have ST := hide (UJ.start (s := s) (i := k) (n := 3) (c0 := (b : Int) - 240) (by omega) (by omega))
        go_wp2
        go_loop [4, 7] (fun c q => ∃ (cc : Int) (j : Nat), j ≤ 3 ∧ c = .int .i64 cc ∧ q = .int .i64 ((j + 1 : Nat) : Int) ∧ Hid (UJ s k 3 j ((b : Int) - 240) cc)) (fun _ q => 4 - (intOf q).toNat)
        case atStart => exact ⟨_, 0, by omega, rfl, rfl, ST⟩
        case round =>
          obtain ⟨cc, j, hj, rfl, rfl, HU⟩ := hrel
          clear ST
          have c1 := (unhide HU).lo
          have c2 := (unhide HU).top (by omega)
          by_cases hq : ((j + 1 : Nat) : Int) ≤ 3
          · have h1 := unhide hix2 k (j + 1) (by omega)
            have d256 := bt_lt s (k + (j + 1))
            have SU := hide (fun a c => (unhide HU).step (by omega) (by omega) a c)
            have HX := hide (fun q => bad_cont (N := 3) (j := j) hlt (unhide HB) (.inr (.inr ⟨rfl, by omega, by omega⟩)) (by omega) q)
            clear HU
            generalize bt s (k + (j + 1)) = d at *
            obtain ⟨q, hqj⟩ : ∃ q, q = j + 1 := ⟨_, rfl⟩
            have HQ := hide hqj
            rw [← hqj] at h1 hq
            simp only [← hqj]
            have hqB : q ≤ 4 := by omega
            clear hqj h0
            by_cases d1 : (d : Int) < 128
            · have HF := hide (unhide HX (.inl (by omega)))
              go_wp2
              go_ret
              exact ⟨congrArg (fun z => Ending.returned (.bool z)) ((unhide HF).symm.trans (unhide HV)), rfl⟩
            by_cases d2 : (192 : Int) ≤ (d : Int)
            · have HF := hide (unhide HX (.inr (by omega)))
              go_wp2
              go_ret
              exact ⟨congrArg (fun z => Ending.returned (.bool z)) ((unhide HF).symm.trans (unhide HV)), rfl⟩
            clear HX
            go_wp2
            go_round
            case rel => exact ⟨_, j + 1, by have := unhide HQ; omega, rfl, by rw [unhide HQ]; go_num, hide (unhide SU (by omega) (by omega))⟩
            case measure => simp [intOf]; have := unhide HQ; omega
          · obtain rfl : j = 3 := by omega
            by_cases p1 : cc < 65536
            · have HF := hide ((unhide HU).bad hlt (unhide HB) (.inr (.inr ⟨rfl, rfl, by omega, by omega, .inl (by omega)⟩)))
              go_wp2
              go_ret
              exact ⟨congrArg (fun z => Ending.returned (.bool z)) ((unhide HF).symm.trans (unhide HV)), rfl⟩
            by_cases p2 : (1114111 : Int) < cc
            · have HF := hide ((unhide HU).bad hlt (unhide HB) (.inr (.inr ⟨rfl, rfl, by omega, by omega, .inr (by omega)⟩)))
              go_wp2
              go_ret
              exact ⟨congrArg (fun z => Ending.returned (.bool z)) ((unhide HF).symm.trans (unhide HV)), rfl⟩
            by_cases p3 : (55296 : Int) ≤ cc
            · by_cases p4 : cc < (57344 : Int)
              · exfalso
                omega
              · go_wp2
                go_round
                case rel => exact ⟨k + 4, by omega, by go_num, hide (((unhide HU).done (by omega) (.inr (.inr ⟨rfl, by rw [unhide HB], by have := unhide HB; omega, by have := unhide HB; omega, by omega, by omega⟩))).symm.trans (unhide HV))⟩
                case measure => simp [intOf]; omega
            · go_wp2
              go_round
              case rel => exact ⟨k + 4, by omega, by go_num, hide (((unhide HU).done (by omega) (.inr (.inr ⟨rfl, by rw [unhide HB], by have := unhide HB; omega, by have := unhide HB; omega, by omega, by omega⟩))).symm.trans (unhide HV))⟩
              case measure => simp [intOf]; omega
      have g4 : ¬ (b : Int) < 248 := by omega
      have g1 : (192 : Int) ≤ (b : Int) := by omega
      have g2 : (224 : Int) ≤ (b : Int) := by omega
      have g3 : (240 : Int) ≤ (b : Int) := by omega
      have HF := hide (bad_first hlt (unhide HB) (.inr (by omega)))
      go_wp2
      go_ret
      exact ⟨congrArg (fun z => Ending.returned (.bool z)) ((unhide HF).symm.trans (unhide HV)), rfl⟩
    · have hltI : ¬ (k : Int) < (s.size : Int) := by omega
      go_wp2
      go_ret
      exact ⟨congrArg (fun z => Ending.returned (.bool z)) ((show Lib.validD (s.data.toList.drop k) = true by rw [List.drop_eq_nil_of_le (by rw [← Lib.size_eq]; omega)]; exact Lib.validD_nil).symm.trans (unhide HV)), rfl⟩
end Go.Proofs.YtbdgngfpofohpaaDoor
