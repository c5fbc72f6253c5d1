/- Walks: Utf8 of the reference: what it takes for runes is valid. -/
import Derived.Test.YtjjioikgligaoaaDoorG4
namespace Go.Proofs.YtjjioikgligaoaaDoor
open Go.RowKit

theorem wd1 {n b0 b1 b2 b3 : Nat} (h0 : 192 ≤ b0) (h1 : b0 < 224) (hn : 1 < n) (h2 : 128 ≤ b1) (h3 : b1 < 192) (hc : (128 : Int) ≤ ((b0 : Int) - 192) * 64 + (b1 : Int) - 128) : (Lib.decodeN n b0 b1 b2 b3).2 = 2 := by
  unfold Lib.decodeN
  rw [if_neg (by omega), if_pos ⟨by omega, hn, by omega⟩, if_pos (by omega)]
theorem wd2 {n b0 b1 b2 b3 : Nat} (h0 : 224 ≤ b0) (h1 : b0 < 240) (hn : 2 < n) (h2 : 128 ≤ b1) (h3 : b1 < 192) (h4 : 128 ≤ b2) (h5 : b2 < 192) (hc : (2048 : Int) ≤ (((b0 : Int) - 224) * 64 + (b1 : Int) - 128) * 64 + (b2 : Int) - 128) (hs : (((b0 : Int) - 224) * 64 + (b1 : Int) - 128) * 64 + (b2 : Int) - 128 < 55296 ∨ 57344 ≤ (((b0 : Int) - 224) * 64 + (b1 : Int) - 128) * 64 + (b2 : Int) - 128) : (Lib.decodeN n b0 b1 b2 b3).2 = 3 := by
  unfold Lib.decodeN
  rw [if_neg (by omega), if_neg (by omega), if_pos ⟨by omega, ⟨by omega, by omega⟩, hn, by omega⟩, if_pos (by omega)]
theorem wd3 {n b0 b1 b2 b3 : Nat} (h0 : 240 ≤ b0) (h1 : b0 < 248) (hn : 3 < n) (h2 : 128 ≤ b1) (h3 : b1 < 192) (h4 : 128 ≤ b2) (h5 : b2 < 192) (h6 : 128 ≤ b3) (h7 : b3 < 192) (hc : (65536 : Int) ≤ ((((b0 : Int) - 240) * 64 + (b1 : Int) - 128) * 64 + (b2 : Int) - 128) * 64 + (b3 : Int) - 128) (hs : ((((b0 : Int) - 240) * 64 + (b1 : Int) - 128) * 64 + (b2 : Int) - 128) * 64 + (b3 : Int) - 128 ≤ 1114111) : (Lib.decodeN n b0 b1 b2 b3).2 = 4 := by
  unfold Lib.decodeN
  rw [if_neg (by omega), if_neg (by omega), if_neg (by omega), if_pos ⟨by omega, ⟨by omega, by omega⟩, ⟨by omega, by omega⟩, hn, by omega⟩, if_pos (by omega)]

/-- the byte at a place -/
def bt (s : ByteArray) (i : Nat) : Nat := (s.data.toList.getD i 0).toNat
theorem bt_at (s : ByteArray) (i : Nat) (h : i < s.size) : bt s i = s[i].toNat := by unfold bt; rw [getD_at s i h]
theorem bt_lt (s : ByteArray) (i : Nat) : bt s i < 256 := (s.data.toList.getD i 0).toNat_lt
theorem dec_bt (s : ByteArray) (i : Nat) (_h : i < s.size) : Lib.decodeL (s.data.toList.drop i) = Lib.decodeN (s.size - i) (bt s i) (bt s (i + 1)) (bt s (i + 2)) (bt s (i + 3)) := by
  rw [Lib.decodeL_N, List.length_drop, ← Lib.size_eq]
  unfold bt
  simp only [List.getD_eq_getElem?_getD, List.getElem?_drop, Nat.add_zero]
/-- one rune on -/
theorem val_on {s : ByteArray} {i k : Nat} (h : i < s.size) (hk : 2 ≤ k) (hw : (Lib.decodeN (s.size - i) (bt s i) (bt s (i + 1)) (bt s (i + 2)) (bt s (i + 3))).2 = k) (hv : Lib.validD (s.data.toList.drop (i + k)) = true) : Lib.validD (s.data.toList.drop i) = true := by
  rw [← dec_bt s i h] at hw
  rw [Lib.validD_step _ (drop_ne h), if_neg (by rintro ⟨_, b⟩; omega), hw, List.drop_drop]
  exact hv
theorem val_on1 {s : ByteArray} {i : Nat} (h : i < s.size) (hb : bt s i < 128) (hv : Lib.validD (s.data.toList.drop (i + 1)) = true) : Lib.validD (s.data.toList.drop i) = true := by
  have hd := dec_bt s i h
  rw [Lib.decodeN_ascii _ _ _ _ _ hb] at hd
  rw [Lib.validD_step _ (drop_ne h), hd, if_neg (by rintro ⟨a, _⟩; simp only at a; omega), List.drop_drop]
  exact hv

/-- the number that the bytes tell -/
def cvF (c0 b1 b2 b3 : Int) : Nat → Int
  | 0 => c0
  | 1 => c0 * 64 + b1 - 128
  | 2 => (c0 * 64 + b1 - 128) * 64 + b2 - 128
  | _ => ((c0 * 64 + b1 - 128) * 64 + b2 - 128) * 64 + b3 - 128
/-- what the inner loop knows after j bytes -/
structure UJ (s : ByteArray) (i n j : Nat) (c0 c : Int) : Prop where
  jn : j ≤ n
  cv : c = cvF c0 (bt s (i + 1) : Int) (bt s (i + 2) : Int) (bt s (i + 3) : Int) j
  b1 : 1 ≤ j → 128 ≤ bt s (i + 1) ∧ bt s (i + 1) < 192
  b2 : 2 ≤ j → 128 ≤ bt s (i + 2) ∧ bt s (i + 2) < 192
  b3 : 3 ≤ j → 128 ≤ bt s (i + 3) ∧ bt s (i + 3) < 192
  lo : 0 ≤ c
  h0 : j = 0 → c ≤ 31
  h1 : j = 1 → c ≤ 2047
  h2 : j = 2 → c ≤ 131071
  h3 : j = 3 → c ≤ 8388607
theorem UJ.start {s : ByteArray} {i n : Nat} {c0 : Int} (h : 0 ≤ c0) (h31 : c0 ≤ 31) : UJ s i n 0 c0 c0 :=
  ⟨Nat.zero_le _, rfl, fun q => absurd q (by omega), fun q => absurd q (by omega), fun q => absurd q (by omega), h, fun _ => h31, fun q => absurd q (by omega), fun q => absurd q (by omega), fun q => absurd q (by omega)⟩
theorem UJ.step {s : ByteArray} {i n j : Nat} {c0 c : Int} (h : UJ s i n j c0 c) (hj : j < n) (hn : n ≤ 3) (hd1 : 128 ≤ bt s (i + (j + 1))) (hd2 : bt s (i + (j + 1)) < 192) : UJ s i n (j + 1) c0 (c * 64 + (bt s (i + (j + 1)) : Int) - 128) := by
  have lo := h.lo
  have cv := h.cv
  have j3 : j = 0 ∨ j = 1 ∨ j = 2 := by omega
  rcases j3 with rfl | rfl | rfl
  · have := h.h0 rfl
    refine ⟨by omega, by rw [cv]; rfl, fun _ => ⟨hd1, hd2⟩, fun q => absurd q (by omega), fun q => absurd q (by omega), by omega, fun q => absurd q (by omega), fun _ => by omega, fun q => absurd q (by omega), fun q => absurd q (by omega)⟩
  · have := h.h1 rfl
    refine ⟨by omega, by rw [cv]; rfl, fun _ => h.b1 (by omega), fun _ => ⟨hd1, hd2⟩, fun q => absurd q (by omega), by omega, fun q => absurd q (by omega), fun q => absurd q (by omega), fun _ => by omega, fun q => absurd q (by omega)⟩
  · have := h.h2 rfl
    refine ⟨by omega, by rw [cv]; rfl, fun _ => h.b1 (by omega), fun _ => h.b2 (by omega), fun _ => ⟨hd1, hd2⟩, by omega, fun q => absurd q (by omega), fun q => absurd q (by omega), fun q => absurd q (by omega), fun _ => by omega⟩
theorem UJ.top {s : ByteArray} {i n j : Nat} {c0 c : Int} (h : UJ s i n j c0 c) (hn : n ≤ 3) : c ≤ 8388607 := by
  have := h.jn
  rcases (by omega : j = 0 ∨ j = 1 ∨ j = 2 ∨ j = 3) with q | q | q | q
  · have := h.h0 q; omega
  · have := h.h1 q; omega
  · have := h.h2 q; omega
  · have := h.h3 q; omega
/-- the rune is right: its bytes may be passed -/
theorem UJ.done {s : ByteArray} {i n : Nat} {c0 c : Int} (h : UJ s i n n c0 c) (hi : i + n < s.size) (hk : (n = 1 ∧ c0 = (bt s i : Int) - 192 ∧ 192 ≤ bt s i ∧ bt s i < 224 ∧ 128 ≤ c) ∨ (n = 2 ∧ c0 = (bt s i : Int) - 224 ∧ 224 ≤ bt s i ∧ bt s i < 240 ∧ 2048 ≤ c ∧ (c < 55296 ∨ 57344 ≤ c)) ∨ (n = 3 ∧ c0 = (bt s i : Int) - 240 ∧ 240 ≤ bt s i ∧ bt s i < 248 ∧ 65536 ≤ c ∧ c ≤ 1114111))
    (hv : Lib.validD (s.data.toList.drop (i + (n + 1))) = true) : Lib.validD (s.data.toList.drop i) = true := by
  have cv := h.cv
  rcases hk with ⟨rfl, rfl, a, b, d⟩ | ⟨rfl, rfl, a, b, d, e⟩ | ⟨rfl, rfl, a, b, d, e⟩
  · obtain ⟨p1, p2⟩ := h.b1 (by omega)
    exact val_on (by omega) (by omega) (wd1 a b (by omega) p1 p2 (by rw [cv] at d; exact d)) hv
  · obtain ⟨p1, p2⟩ := h.b1 (by omega)
    obtain ⟨p3, p4⟩ := h.b2 (by omega)
    exact val_on (by omega) (by omega) (wd2 a b (by omega) p1 p2 p3 p4 (by rw [cv] at d; exact d) (by rw [cv] at e; exact e)) hv
  · obtain ⟨p1, p2⟩ := h.b1 (by omega)
    obtain ⟨p3, p4⟩ := h.b2 (by omega)
    obtain ⟨p5, p6⟩ := h.b3 (by omega)
    exact val_on (by omega) (by omega) (wd3 a b (by omega) p1 p2 p3 p4 p5 p6 (by rw [cv] at d; exact d) (by rw [cv] at e; exact e)) hv
end Go.Proofs.YtjjioikgligaoaaDoor
