/- Division word by word: more plain facts. -/
import Derived.Test.YtbdgngfpofohpaaDoorG04
namespace Go.Proofs.YtbdgngfpofohpaaDoor
namespace Bg

theorem top_div {n : Nat} (_ : n ≠ 0) {x : Nat} (hx : (wd n)[(wd n).length - 1]? = some x) : n / 4294967296 ^ ((wd n).length - 1) = x := by
  have hl := (List.getElem?_eq_some_iff.1 hx).1
  have h := val_word (wd_ok n) hx
  rw [val_none (wd_ok n) (i := (wd n).length - 1 + 1) (by omega), val_wd] at h
  omega
theorem len_ge {n k : Nat} (h : 4294967296 ^ k ≤ n) : k + 1 ≤ (wd n).length := by
  rcases Nat.lt_or_ge k (wd n).length with g | g
  · exact g
  · have h1 := wd_lt n
    have h2 : 4294967296 ^ (wd n).length ≤ 4294967296 ^ k := Nat.pow_le_pow_right (by omega) g
    omega
/-- a divisor whose greatest bit is set -/
theorem norm_facts {b x k s : Nat} (b0 : b ≠ 0) (hx : (wd b)[(wd b).length - 1]? = some x) (h1 : x < 2 ^ k) (h2 : 2 ^ k ≤ 2 * x) (hk : s + k = 32) :
    (wd (b * 2 ^ s)).length = (wd b).length ∧ ∃ t, (wd (b * 2 ^ s))[(wd b).length - 1]? = some t ∧ 2147483648 ≤ t ∧ t < 4294967296 ∧ b * 2 ^ s / 4294967296 ^ ((wd b).length - 1) = t := by
  have hl := (List.getElem?_eq_some_iff.1 hx).1
  have e := top_div b0 hx
  obtain ⟨l, hll⟩ : ∃ l, (wd b).length = l + 1 := ⟨(wd b).length - 1, by omega⟩
  rw [hll, Nat.add_sub_cancel] at e ⊢
  have hM : 0 < 4294967296 ^ l := Nat.pow_pos (by omega)
  have l1 : x * 4294967296 ^ l ≤ b := by rw [← e]; exact Nat.div_mul_le_self _ _
  have l2 : b < (x + 1) * 4294967296 ^ l := by rw [← e, Nat.mul_comm]; exact Nat.lt_mul_div_succ _ hM
  have p1 : 2 ^ k * 2 ^ s = 4294967296 := by rw [← Nat.pow_add, Nat.add_comm, hk]
  have q1 : 2147483648 ≤ x * 2 ^ s := by
    have : 2 ^ k * 2 ^ s ≤ 2 * x * 2 ^ s := Nat.mul_le_mul_right _ h2
    rw [p1, Nat.mul_assoc] at this
    omega
  have q2 : (x + 1) * 2 ^ s ≤ 4294967296 := by
    have : (x + 1) * 2 ^ s ≤ 2 ^ k * 2 ^ s := Nat.mul_le_mul_right _ h1
    omega
  have u1 : 2147483648 * 4294967296 ^ l ≤ b * 2 ^ s := by
    have h3 : x * 4294967296 ^ l * 2 ^ s ≤ b * 2 ^ s := Nat.mul_le_mul_right _ l1
    have h4 : 2147483648 * 4294967296 ^ l ≤ x * 2 ^ s * 4294967296 ^ l := Nat.mul_le_mul_right _ q1
    have e3 : x * 4294967296 ^ l * 2 ^ s = x * 2 ^ s * 4294967296 ^ l := by grind
    omega
  have u2 : b * 2 ^ s < 4294967296 * 4294967296 ^ l := by
    have h3 : b * 2 ^ s < (x + 1) * 4294967296 ^ l * 2 ^ s := Nat.mul_lt_mul_of_pos_right l2 (Nat.pow_pos (by omega))
    have h4 : (x + 1) * 2 ^ s * 4294967296 ^ l ≤ 4294967296 * 4294967296 ^ l := Nat.mul_le_mul_right _ q2
    have e3 : (x + 1) * 4294967296 ^ l * 2 ^ s = (x + 1) * 2 ^ s * 4294967296 ^ l := by grind
    omega
  have len : (wd (b * 2 ^ s)).length = l + 1 := by
    have g1 := wd_len_le (l + 1) (b * 2 ^ s) (by rw [Nat.pow_succ, Nat.mul_comm (4294967296 ^ l)]; exact u2)
    have g2 := len_ge (n := b * 2 ^ s) (k := l) (by omega)
    omega
  refine ⟨len, ?_⟩
  have hv0 : b * 2 ^ s ≠ 0 := by omega
  obtain ⟨t, ht, ht0, htb⟩ := wd_last hv0
  have e2 := top_div hv0 ht
  rw [len, Nat.add_sub_cancel] at ht e2
  refine ⟨t, ht, ?_, htb, e2⟩
  rw [← e2, Nat.le_div_iff_mul_le hM]
  exact u1
theorem left_len {a s : Nat} (hs : s < 32) : (wd (a * 2 ^ s)).length ≤ (wd a).length + 1 := by
  refine wd_len_le _ _ ?_
  have h1 := wd_lt a
  have h2 : 2 ^ s ≤ 2 ^ 31 := Nat.pow_le_pow_right (by omega) (by omega)
  have h3 : a * 2 ^ s ≤ a * 4294967296 := Nat.mul_le_mul_left _ (by omega)
  have h4 : a * 4294967296 < 4294967296 ^ (wd a).length * 4294967296 := Nat.mul_lt_mul_of_pos_right h1 (by omega)
  rw [Nat.pow_succ]
  omega
theorem start_lt {a b s m lb t : Nat} (hs : s < 32) (hm : (wd a).length + 1 = lb + m) (hlb : 1 ≤ lb) (ht : 2147483648 ≤ t) (h5 : b * 2 ^ s / 4294967296 ^ (lb - 1) = t) : a * 2 ^ s < b * 2 ^ s * 4294967296 ^ (m + 1) := by
  have h1 := wd_lt a
  have h2 : 2 ^ s ≤ 2 ^ 31 := Nat.pow_le_pow_right (by omega) (by omega)
  have h3 : a * 2 ^ s < 4294967296 ^ (wd a).length * 4294967296 := by
    have h4 : a * 2 ^ s ≤ a * 4294967296 := Nat.mul_le_mul_left _ (by omega)
    have h5 : a * 4294967296 < 4294967296 ^ (wd a).length * 4294967296 := Nat.mul_lt_mul_of_pos_right h1 (by omega)
    omega
  have hM : 0 < 4294967296 ^ (lb - 1) := Nat.pow_pos (by omega)
  have h6 : t * 4294967296 ^ (lb - 1) ≤ b * 2 ^ s := by rw [← h5]; exact Nat.div_mul_le_self _ _
  have h7 : 1 * 4294967296 ^ (lb - 1) ≤ t * 4294967296 ^ (lb - 1) := Nat.mul_le_mul_right _ (by omega)
  have h8 : 4294967296 ^ (lb - 1) * 4294967296 ^ (m + 1) ≤ b * 2 ^ s * 4294967296 ^ (m + 1) := Nat.mul_le_mul_right _ (by omega)
  rw [← Nat.pow_add, show lb - 1 + (m + 1) = (wd a).length + 1 by omega, Nat.pow_succ] at h8
  omega

/-- what the guessing of a digit knows, out of the words -/
theorem gs_of {us vs : List Nat} {j n top next u0 u1 u2 : Nat} (ou : Ok us) (ov : Ok vs) (hn : vs.length = n + 2) (h0 : us[j + n + 2]? = some u0) (h1 : us[j + n + 1]? = some u1) (h2 : us[j + n]? = some u2) (ht : vs[n + 1]? = some top) (hx : vs[n]? = some next) (ht0 : 0 < top) (hX : val us < val vs * (4294967296 * 4294967296 ^ j)) :
    Gs (val us / 4294967296 ^ j) (val vs) (u1 + 4294967296 * u0) top next u2 (4294967296 ^ n) := by
  have hB : 0 < 4294967296 ^ j := Nat.pow_pos (by omega)
  have hlt : val us / 4294967296 ^ j < val vs * 4294967296 := by
    rw [Nat.div_lt_iff_lt_mul hB, Nat.mul_assoc]; exact hX
  have hvl := val_lt ov
  rw [hn] at hvl
  have z : val us / 4294967296 ^ (j + n + 3) = 0 := by
    refine Nat.div_eq_of_lt (Nat.lt_trans hX ?_)
    have : val vs * (4294967296 * 4294967296 ^ j) < 4294967296 ^ (n + 2) * (4294967296 * 4294967296 ^ j) := Nat.mul_lt_mul_of_pos_right hvl (by omega)
    have e : 4294967296 ^ (n + 2) * (4294967296 * 4294967296 ^ j) = 4294967296 ^ (j + n + 3) := by rw [Nat.mul_comm 4294967296, ← Nat.pow_succ, ← Nat.pow_add]; congr 1; omega
    omega
  have w0 := val_word ou h0
  have w1 := val_word ou h1
  have w2 := val_word ou h2
  rw [z] at w0
  rw [w0] at w1
  rw [w1] at w2
  have x1 := val_word ov ht
  rw [val_none ov (i := n + 1 + 1) (by omega)] at x1
  have x2 := val_word ov hx
  rw [x1] at x2
  have dm := Nat.div_add_mod (val us / 4294967296 ^ j) (4294967296 ^ n)
  have dv := Nat.div_add_mod (val vs) (4294967296 ^ n)
  rw [Nat.div_div_eq_div_mul, ← Nat.pow_add, w2] at dm
  rw [x2] at dv
  refine ⟨⟨val us / 4294967296 ^ j % 4294967296 ^ n, val vs % 4294967296 ^ n, ?_, Nat.mod_lt _ (Nat.pow_pos (by omega)), ?_, Nat.mod_lt _ (Nat.pow_pos (by omega))⟩, ht0, ov.at hx, hlt⟩
  · rw [← dm]
    grind
  · rw [← dv]
    grind
theorem keep_lt {us ts : List Nat} {i : Nat} (ou : Ok us) (ot : Ok ts) (hl : ts.length = us.length) (hi : i ≤ us.length) (h : ∀ l, i ≤ l → ts[l]? = us[l]?) (hx : val us < 4294967296 ^ i) : val ts < 4294967296 ^ i := by
  have e : ts.drop i = us.drop i := by
    apply List.ext_getElem?
    intro n
    rw [List.getElem?_drop, List.getElem?_drop]
    exact h _ (by omega)
  have h1 := (val_div us ou i hi).1
  rw [Nat.div_eq_of_lt hx] at h1
  rw [val_take_drop ts i (by omega), e, ← h1, Nat.mul_zero, Nat.add_zero]
  have := val_lt (ot.take i)
  rwa [List.length_take, Nat.min_eq_left (by omega)] at this
theorem borrow2 {x c y e1 e2 : Nat} (hx : x < 4294967296) (hc : c < 4294967296) (hy : y ≤ 1) (h1 : e1 = (x + 18446744073709551616 - c) % 18446744073709551616) (h2 : e2 = (e1 + 18446744073709551616 - y) % 18446744073709551616) : x + e2 / 9223372036854775808 * 4294967296 = e2 % 4294967296 + c + y ∧ e2 / 9223372036854775808 ≤ 1 := by omega
theorem ms_step {X Y Y2 M c d c2 d2 x wd low p g v y Bi Bj : Nat} (h : X + (c + d) * M = Y + g * v * Bj) (hs : Y2 + M * x = Y + M * wd) (h1 : c2 * 4294967296 + low = c + p) (h2 : x + d2 * 4294967296 = wd + low + d) (hp : p = g * y) (hM : M = Bi * Bj) : X + (c2 + d2) * (M * 4294967296) = Y2 + g * (v + Bi * y) * Bj := by
  have e1 : (c2 + d2) * (M * 4294967296) + M * x = M * (c + p + (wd + d)) := by
    have : c2 * 4294967296 + (x + d2 * 4294967296) = c + p + (wd + d) := by omega
    rw [← this]
    grind
  have e2 : M * (c + p + (wd + d)) = (c + d) * M + M * wd + M * p := by grind
  have e3 : g * (v + Bi * y) * Bj = g * v * Bj + M * p := by rw [hp, hM]; grind
  omega
theorem ab_step {X Y Y2 M c x T v y Bi Bj : Nat} (h : Y + c * M = X + v * Bj) (hs : Y2 + M * x = Y + M * (T % 4294967296)) (hT : T = c + (x + y)) (hM : M = Bi * Bj) : Y2 + T / 4294967296 * (M * 4294967296) = X + (v + Bi * y) * Bj := by
  have e := carry M T
  have e2 : M * T = c * M + M * x + M * y := by rw [hT]; grind
  have e3 : (v + Bi * y) * Bj = v * Bj + M * y := by rw [hM]; grind
  omega
/-- what a round of the division leaves -/
theorem k_fin {A V X X3 q0 j : Nat} {qs : List Nat} (hq : j < qs.length) (hV : 0 < V) (hE : A = val (qs.drop (j + 1)) * V * 4294967296 ^ (j + 1) + X) (h0 : q0 = X / 4294967296 ^ j / V) (h3 : X3 = X - q0 * V * 4294967296 ^ j) :
    A = val ((qs.set j q0).drop j) * V * 4294967296 ^ j + X3 ∧ X3 < V * 4294967296 ^ j := by
  rw [Nat.pow_succ, Nat.mul_comm (4294967296 ^ j)] at hE
  have h := k_step (Nat.pow_pos (by omega)) hE h0 hV
  rw [h3, drop_set hq, val]
  refine ⟨?_, h.2.2⟩
  have e := h.2.1
  rw [show val (qs.drop (j + 1)) * 4294967296 + q0 = q0 + 4294967296 * val (qs.drop (j + 1)) by omega] at e
  exact e
theorem k_lt {V lb j : Nat} {us : List Nat} (hV : V < 4294967296 ^ lb) (hX : val us < V * 4294967296 ^ (j + 1)) : val us < 4294967296 ^ (j + lb + 1) ∧ V * 4294967296 ^ j ≤ 4294967296 ^ (lb + j) := by
  constructor
  · have h : V * 4294967296 ^ (j + 1) ≤ 4294967296 ^ lb * 4294967296 ^ (j + 1) := Nat.mul_le_mul_right _ (Nat.le_of_lt hV)
    rw [← Nat.pow_add, show lb + (j + 1) = j + lb + 1 by omega] at h
    omega
  · rw [Nat.pow_add]
    exact Nat.mul_le_mul_right _ (Nat.le_of_lt hV)
end Bg
end Go.Proofs.YtbdgngfpofohpaaDoor
