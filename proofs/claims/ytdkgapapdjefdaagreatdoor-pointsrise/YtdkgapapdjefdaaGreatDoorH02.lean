/- Words of thirty-two bits, the least first: plain facts. -/
import Derived.RowKit
namespace Go.Proofs.YtdkgapapdjefdaaGreatDoor
namespace Bg

def val : List Nat → Nat
  | [] => 0
  | x :: xs => x + 4294967296 * val xs
def Ok (ws : List Nat) : Prop := ∀ x ∈ ws, x < 4294967296
def wd (n : Nat) : List Nat := if n = 0 then [] else (n % 4294967296) :: wd (n / 4294967296)
termination_by n
decreasing_by omega

theorem wd_zero : wd 0 = [] := by rw [wd, if_pos rfl]
theorem wd_pos {n : Nat} (h : n ≠ 0) : wd n = (n % 4294967296) :: wd (n / 4294967296) := by rw [wd, if_neg h]
theorem wd_nil {n : Nat} : wd n = [] ↔ n = 0 := by
  constructor
  · intro h
    by_cases e : n = 0
    · exact e
    · rw [wd_pos e] at h; cases h
  · rintro rfl; exact wd_zero
theorem wd_ok : ∀ n, Ok (wd n) := by
  intro n
  induction n using Nat.strongRecOn with
  | _ n ih =>
    by_cases e : n = 0
    · rw [e, wd_zero]; intro x hx; cases hx
    · rw [wd_pos e]
      intro x hx
      rcases List.mem_cons.1 hx with rfl | hx
      · omega
      · exact ih (n / 4294967296) (by omega) x hx
theorem val_wd : ∀ n, val (wd n) = n := by
  intro n
  induction n using Nat.strongRecOn with
  | _ n ih =>
    by_cases e : n = 0
    · rw [e, wd_zero]; rfl
    · rw [wd_pos e, val, ih (n / 4294967296) (by omega)]
      omega
theorem val_app : ∀ (xs ys : List Nat), val (xs ++ ys) = val xs + 4294967296 ^ xs.length * val ys
  | [], ys => by simp [val]
  | x :: xs, ys => by
    rw [List.cons_append, val, val, val_app xs ys, List.length_cons, Nat.pow_succ, Nat.mul_add, Nat.mul_comm (4294967296 ^ xs.length) 4294967296, Nat.mul_assoc]
    omega
theorem Ok.tail {x : Nat} {xs : List Nat} (h : Ok (x :: xs)) : Ok xs := fun y hy => h y (List.mem_cons_of_mem _ hy)
theorem Ok.head {x : Nat} {xs : List Nat} (h : Ok (x :: xs)) : x < 4294967296 := h x List.mem_cons_self
theorem Ok.take {xs : List Nat} (h : Ok xs) (i : Nat) : Ok (xs.take i) := fun y hy => h y (List.mem_of_mem_take hy)
theorem Ok.drop {xs : List Nat} (h : Ok xs) (i : Nat) : Ok (xs.drop i) := fun y hy => h y (List.mem_of_mem_drop hy)
theorem Ok.set {xs : List Nat} (h : Ok xs) (i : Nat) {y : Nat} (hy : y < 4294967296) : Ok (xs.set i y) := fun z hz => by
  rcases List.mem_or_eq_of_mem_set hz with hz | rfl
  · exact h z hz
  · exact hy
theorem Ok.zeros (n : Nat) : Ok (List.replicate n 0) := fun y hy => by rw [List.eq_of_mem_replicate hy]; omega
theorem Ok.at {xs : List Nat} (h : Ok xs) {i x : Nat} (hx : xs[i]? = some x) : x < 4294967296 := h x (List.mem_of_getElem? hx)
theorem val_lt : ∀ {ws : List Nat}, Ok ws → val ws < 4294967296 ^ ws.length
  | [], _ => by simp [val]
  | x :: xs, h => by
    have := val_lt h.tail
    have hx := h.head
    rw [val, List.length_cons, Nat.pow_succ]
    have : 4294967296 * (val xs + 1) ≤ 4294967296 * 4294967296 ^ xs.length := Nat.mul_le_mul_left _ this
    rw [Nat.mul_comm (4294967296 ^ xs.length)]
    omega
theorem val_zeros (n : Nat) : val (List.replicate n 0) = 0 := by
  induction n with
  | zero => rfl
  | succ n ih => rw [List.replicate_succ, val, ih]
theorem val_all0 : ∀ {ws : List Nat}, (∀ x ∈ ws, x = 0) → val ws = 0
  | [], _ => rfl
  | x :: xs, h => by rw [val, h x List.mem_cons_self, val_all0 (fun y hy => h y (List.mem_cons_of_mem _ hy))]
theorem wd_val : ∀ {ws : List Nat}, Ok ws → (∀ h : ws ≠ [], ws.getLast h ≠ 0) → wd (val ws) = ws
  | [], _, _ => by rw [val, wd_zero]
  | [x], h, hl => by
    have hx := h.head
    have h0 : x ≠ 0 := hl (by simp)
    rw [val, val, Nat.mul_zero, Nat.add_zero, wd_pos h0, Nat.mod_eq_of_lt hx, Nat.div_eq_of_lt hx, wd_zero]
  | x :: y :: ys, h, hl => by
    have ih := wd_val h.tail (fun hn => by have := hl (by simp); rwa [List.getLast_cons hn] at this)
    have hx := h.head
    have hv : val (y :: ys) ≠ 0 := fun e => by rw [e, wd_zero] at ih; cases ih
    rw [val, wd_pos (by omega), show (x + 4294967296 * val (y :: ys)) % 4294967296 = x by omega, show (x + 4294967296 * val (y :: ys)) / 4294967296 = val (y :: ys) by omega, ih]
theorem val_take_drop (ws : List Nat) (i : Nat) (h : i ≤ ws.length) : val ws = val (ws.take i) + 4294967296 ^ i * val (ws.drop i) := by
  have := val_app (ws.take i) (ws.drop i)
  rwa [List.take_append_drop, List.length_take, Nat.min_eq_left h] at this
theorem wd_trim {ws : List Nat} (ok : Ok ws) {n : Nat} (hn : n ≤ ws.length) (hz : ∀ j x, n ≤ j → ws[j]? = some x → x = 0) (hl : ∀ x, 0 < n → ws[n - 1]? = some x → x ≠ 0) : ws.take n = wd (val ws) := by
  have h0 : val (ws.drop n) = 0 := by
    refine val_all0 fun x hx => ?_
    obtain ⟨i, hi⟩ := List.getElem?_of_mem hx
    rw [List.getElem?_drop] at hi
    exact hz _ x (by omega) hi
  rw [val_take_drop ws n hn, h0, Nat.mul_zero, Nat.add_zero]
  refine (wd_val (ok.take n) fun hne => ?_).symm
  have hn0 : 0 < n := by
    rcases Nat.eq_zero_or_pos n with e | e
    · rw [e] at hne; exact absurd rfl hne
    · exact e
  refine hl _ hn0 ?_
  rw [List.getLast_eq_getElem, List.getElem_take]
  have : (ws.take n).length - 1 = n - 1 := by rw [List.length_take, Nat.min_eq_left hn]
  simp only [this]
  exact List.getElem?_eq_getElem (by omega)
theorem val_succ (ws : List Nat) (i x : Nat) (h : ws[i]? = some x) : val (ws.take (i + 1)) = val (ws.take i) + 4294967296 ^ i * x := by
  have hi := (List.getElem?_eq_some_iff.1 h).1
  rw [List.take_add_one, h, Option.toList_some, val_app, List.length_take, Nat.min_eq_left (by omega)]
  simp [val]
theorem val_split (ws : List Nat) (i x : Nat) (h : ws[i]? = some x) : val ws = val (ws.take i) + 4294967296 ^ i * (x + 4294967296 * val (ws.drop (i + 1))) := by
  have hi := (List.getElem?_eq_some_iff.1 h).1
  rw [val_take_drop ws i (by omega), List.drop_eq_getElem_cons hi, val, show ws[i] = x from (List.getElem?_eq_some_iff.1 h).2]
theorem val_set (ws : List Nat) (i x y : Nat) (h : ws[i]? = some x) : val (ws.set i y) + 4294967296 ^ i * x = val ws + 4294967296 ^ i * y := by
  have hi := (List.getElem?_eq_some_iff.1 h).1
  have e := val_split (ws.set i y) i y (by simp [hi])
  rw [e, val_split ws i x h, List.take_set_of_le (Nat.le_refl _), List.drop_set_of_lt (by omega), Nat.mul_add, Nat.mul_add]
  omega
theorem val_top {us vs : List Nat} {i x y : Nat} (ha : Ok us) (hx : us[i]? = some x) (hy : vs[i]? = some y) (hd : us.drop (i + 1) = vs.drop (i + 1)) (hlt : x < y) : val us < val vs := by
  have hi := (List.getElem?_eq_some_iff.1 hx).1
  rw [val_split us i x hx, val_split vs i y hy, hd]
  have l := val_lt (ha.take i)
  rw [List.length_take, Nat.min_eq_left (by omega)] at l
  have : 4294967296 ^ i * (x + 4294967296 * val (vs.drop (i + 1)) + 1) ≤ 4294967296 ^ i * (y + 4294967296 * val (vs.drop (i + 1))) := Nat.mul_le_mul_left _ (by omega)
  rw [Nat.mul_add, Nat.mul_one] at this
  omega
theorem wd_len_le : ∀ (k n : Nat), n < 4294967296 ^ k → (wd n).length ≤ k
  | 0, n, h => by
    have : n = 0 := by simpa using h
    rw [this, wd_zero]; exact Nat.le_refl _
  | k + 1, n, h => by
    by_cases e : n = 0
    · rw [e, wd_zero]; simp
    · rw [wd_pos e, List.length_cons]
      have := wd_len_le k (n / 4294967296) (by rw [Nat.pow_succ] at h; exact Nat.div_lt_of_lt_mul (by rwa [Nat.mul_comm] at h))
      omega
theorem wd_lt (n : Nat) : n < 4294967296 ^ (wd n).length := by
  have := val_lt (wd_ok n)
  rwa [val_wd] at this
theorem wd_mono {a b : Nat} (h : a ≤ b) : (wd a).length ≤ (wd b).length := wd_len_le _ _ (Nat.lt_of_le_of_lt h (wd_lt b))
theorem lt_of_len {a b : Nat} (h : (wd a).length < (wd b).length) : a < b := by
  rcases Nat.lt_or_ge a b with g | g
  · exact g
  · have := wd_mono g; omega
theorem wd_inj {a b : Nat} (h : wd a = wd b) : a = b := by rw [← val_wd a, h, val_wd]
theorem wd_last {n : Nat} (h : n ≠ 0) : ∃ x, (wd n)[(wd n).length - 1]? = some x ∧ x ≠ 0 ∧ x < 4294967296 := by
  induction n using Nat.strongRecOn with
  | _ n ih =>
    rw [wd_pos h]
    by_cases e : n / 4294967296 = 0
    · rw [e, wd_zero]
      exact ⟨n % 4294967296, rfl, by omega, by omega⟩
    · obtain ⟨x, hx, h0, hb⟩ := ih _ (by omega) e
      refine ⟨x, ?_, h0, hb⟩
      have hp : 0 < (wd (n / 4294967296)).length := by
        rcases Nat.eq_zero_or_pos (wd (n / 4294967296)).length with q | q
        · exact absurd (wd_nil.1 (List.length_eq_zero_iff.1 q)) e
        · exact q
      rw [List.length_cons, Nat.add_sub_cancel]
      obtain ⟨k, hk⟩ : ∃ k, (wd (n / 4294967296)).length = k + 1 := ⟨_, (Nat.succ_pred_eq_of_pos hp).symm⟩
      rw [hk] at hx ⊢
      simpa using hx
theorem wd_one {n : Nat} (h : n < 4294967296) (h0 : n ≠ 0) : wd n = [n] := by rw [wd_pos h0, Nat.mod_eq_of_lt h, Nat.div_eq_of_lt h, wd_zero]
theorem carry (M T : Nat) : M * (T % 4294967296) + T / 4294967296 * (M * 4294967296) = M * T := by
  have h := Nat.div_add_mod T 4294967296
  have e : M * T = M * (4294967296 * (T / 4294967296) + T % 4294967296) := by rw [h]
  rw [e]
  grind
theorem zero_set {rs : List Nat} {m t : Nat} (h : ∀ j x, m ≤ j → rs[j]? = some x → x = 0) : ∀ j x, m + 1 ≤ j → (rs.set m t)[j]? = some x → x = 0 := fun j x hj hx => by
  rw [List.getElem?_set_ne (by omega)] at hx
  exact h j x (by omega) hx
theorem zero_rep (n : Nat) : ∀ j x, 0 ≤ j → (List.replicate n 0)[j]? = some x → x = 0 := fun j x _ hx => by
  rw [List.getElem?_replicate] at hx
  split at hx
  · exact (Option.some.inj hx).symm
  · cases hx
theorem val_set0 {rs : List Nat} {m t : Nat} (h : ∀ j x, m ≤ j → rs[j]? = some x → x = 0) (hm : m < rs.length) : val (rs.set m t) = val rs + 4294967296 ^ m * t := by
  have e := List.getElem?_eq_getElem hm
  rw [h m _ (Nat.le_refl _) e] at e
  have := val_set rs m 0 t e
  omega
theorem take_one (us : List Nat) (m : Nat) : val (us.take (m + 1)) = val (us.take m) + 4294967296 ^ m * (us[m]?.getD 0) := by
  cases h : us[m]? with
  | some x => exact val_succ us m x h
  | none =>
    have : us.length ≤ m := List.getElem?_eq_none_iff.1 h
    rw [List.take_of_length_le (by omega), List.take_of_length_le this]
    simp
theorem add_step {R c M a b x y : Nat} (h : R + c * M = a + b) : R + M * ((c + x + y) % 4294967296) + (c + x + y) / 4294967296 * (M * 4294967296) = a + M * x + (b + M * y) := by
  have e := carry M (c + x + y)
  have e2 : M * (c + x + y) = c * M + M * x + M * y := by grind
  omega
theorem borrow {x c y e1 e2 : Nat} (hx : x < 4294967296) (hc : c ≤ 1) (hy : y < 4294967296) (h1 : e1 = (x + 18446744073709551616 - c) % 18446744073709551616) (h2 : e2 = (e1 + 18446744073709551616 - y) % 18446744073709551616) : x + e2 / 9223372036854775808 * 4294967296 = e2 % 4294967296 + c + y ∧ e2 / 9223372036854775808 ≤ 1 := by omega
theorem sub_step {R c c2 M a b x y t : Nat} (h : a + c * M = R + b) (h2 : x + c2 * 4294967296 = t + c + y) : a + M * x + c2 * (M * 4294967296) = R + M * t + (b + M * y) := by
  have e : M * x + c2 * (M * 4294967296) = M * (x + c2 * 4294967296) := by grind
  have e2 : M * (x + c2 * 4294967296) = M * t + c * M + M * y := by rw [h2]; grind
  omega
theorem mul_step {R R2 M c r p T A : Nat} (hs : R2 + M * r = R + M * (T % 4294967296)) (h : R + c * M = A) (hT : T = c + (p + r)) : R2 + T / 4294967296 * (M * 4294967296) = A + M * p := by
  have e := carry M T
  have e2 : M * T = c * M + M * p + M * r := by rw [hT]; grind
  omega
theorem mul_lt {x y c r : Nat} (hx : x < 4294967296) (hy : y < 4294967296) (hc : c < 4294967296) (hr : r < 4294967296) : x * y < 18446744073709551616 ∧ x * y + r < 18446744073709551616 ∧ c + (x * y + r) < 18446744073709551616 := by
  have : x * y ≤ 4294967295 * 4294967295 := Nat.mul_le_mul (by omega) (by omega)
  omega
theorem mul_row {M v x y k : Nat} : x * k * (v + M * y) = x * k * v + k * M * (x * y) := by grind
theorem drop_set {us : List Nat} {k t : Nat} (h : k < us.length) : (us.set k t).drop k = t :: us.drop (k + 1) := by
  rw [List.drop_eq_getElem_cons (by simpa using h), List.getElem_set_self, List.drop_set_of_lt (by omega)]
theorem small_step {V Q d r x h : Nat} (hE : V = Q * d + r) (hh : h = x + 4294967296 * r) : x + 4294967296 * V = (h / d + 4294967296 * Q) * d + h % d := by
  have e := Nat.div_add_mod h d
  have e2 : (h / d + 4294967296 * Q) * d = d * (h / d) + 4294967296 * (Q * d) := by grind
  rw [e2, hE]
  omega
theorem small_lt {d r x h : Nat} (hr : r < d) (hx : x < 4294967296) (hh : h = x + 4294967296 * r) : h / d < 4294967296 := by
  rw [Nat.div_lt_iff_lt_mul (by omega), hh]
  have : 4294967296 * (r + 1) ≤ 4294967296 * d := Nat.mul_le_mul_left _ hr
  omega
theorem left_facts {s x h : Nat} (hs : s < 32) (hx : x < 4294967296) (hh : h < 2 ^ s) : h ||| x * 2 ^ s % 4294967296 = h + x * 2 ^ s % 4294967296 ∧ h + x * 2 ^ s % 4294967296 < 4294967296 ∧ x * 2 ^ s / 4294967296 < 2 ^ s ∧ 2 ^ s ≤ 2147483648 := by
  have e0 : (4294967296 : Nat) = 2 ^ s * 2 ^ (32 - s) := by rw [← Nat.pow_add, show s + (32 - s) = 32 by omega]
  have e1 : x * 2 ^ s % 4294967296 = 2 ^ s * (x % 2 ^ (32 - s)) := by rw [e0, Nat.mul_comm x, Nat.mul_mod_mul_left]
  have l1 : x % 2 ^ (32 - s) < 2 ^ (32 - s) := Nat.mod_lt _ (Nat.pow_pos (by omega))
  have l2 : 2 ^ s * (x % 2 ^ (32 - s) + 1) ≤ 2 ^ s * 2 ^ (32 - s) := Nat.mul_le_mul_left _ l1
  rw [← e0, Nat.mul_add, Nat.mul_one] at l2
  have l3 : 2 ^ s ≤ 2 ^ 31 := Nat.pow_le_pow_right (by omega) (by omega)
  refine ⟨?_, by omega, ?_, by omega⟩
  · rw [e1, Nat.or_comm, ← Nat.two_pow_add_eq_or_of_lt hh, Nat.add_comm]
  · rw [Nat.div_lt_iff_lt_mul (by omega), Nat.mul_comm]
    exact Nat.mul_lt_mul_of_pos_left hx (Nat.pow_pos (by omega))
theorem left_step {R R1 R2 M h T : Nat} (h1 : R1 + M * h = R + M * (h + T % 4294967296)) (h2 : R2 = R1 + M * 4294967296 * (T / 4294967296)) : R2 = R + M * T := by
  have e := carry M T
  have e2 : M * (h + T % 4294967296) = M * h + M * (T % 4294967296) := Nat.mul_add _ _ _
  have e3 : M * 4294967296 * (T / 4294967296) = T / 4294967296 * (M * 4294967296) := Nat.mul_comm _ _
  omega
def cmpN (a b : Nat) : Int := if a < b then -1 else if a = b then 0 else 1
theorem cmpN_lt {a b : Nat} (h : a < b) : cmpN a b = -1 := by rw [cmpN, if_pos h]
theorem cmpN_gt {a b : Nat} (h : b < a) : cmpN a b = 1 := by rw [cmpN, if_neg (by omega), if_neg (by omega)]
theorem cmpN_eq {a b : Nat} (h : a = b) : cmpN a b = 0 := by rw [cmpN, if_neg (by omega), if_pos h]
end Bg
end Go.Proofs.YtdkgapapdjefdaaGreatDoor

/- Division word by word from above: plain facts. -/
namespace Go.Proofs.YtdkgapapdjefdaaGreatDoor
namespace Bg

theorem val_div (ws : List Nat) (ok : Ok ws) (i : Nat) (h : i ≤ ws.length) : val ws / 4294967296 ^ i = val (ws.drop i) ∧ val ws % 4294967296 ^ i = val (ws.take i) := by
  have l := val_lt (ok.take i)
  rw [List.length_take, Nat.min_eq_left h] at l
  rw [val_take_drop ws i h]
  have hp : 0 < 4294967296 ^ i := Nat.pow_pos (by omega)
  constructor
  · rw [Nat.add_mul_div_left _ _ hp, Nat.div_eq_of_lt l, Nat.zero_add]
  · rw [Nat.add_mul_mod_self_left, Nat.mod_eq_of_lt l]
theorem val_word {ws : List Nat} (ok : Ok ws) {i x : Nat} (h : ws[i]? = some x) : val ws / 4294967296 ^ i = x + 4294967296 * (val ws / 4294967296 ^ (i + 1)) := by
  have hi := (List.getElem?_eq_some_iff.1 h).1
  rw [(val_div ws ok i (by omega)).1, (val_div ws ok (i + 1) (by omega)).1, List.drop_eq_getElem_cons hi, val, show ws[i] = x from (List.getElem?_eq_some_iff.1 h).2]

theorem val_none {ws : List Nat} (ok : Ok ws) {i : Nat} (h : ws.length ≤ i) : val ws / 4294967296 ^ i = 0 :=
  Nat.div_eq_of_lt (Nat.lt_of_lt_of_le (val_lt ok) (Nat.pow_le_pow_right (by omega) h))
theorem right_dig {X M s x y K : Nat} (hs : s < 32) (h1 : X / M = x + 4294967296 * (y + 4294967296 * K)) : X / 2 ^ s / M % 4294967296 = (x + 4294967296 * y) / 2 ^ s % 4294967296 := by
  have e0 : (18446744073709551616 : Nat) = 2 ^ s * (4294967296 * 2 ^ (32 - s)) := by
    have : (4294967296 : Nat) = 2 ^ s * 2 ^ (32 - s) := by rw [← Nat.pow_add, show s + (32 - s) = 32 by omega]
    have e : 2 ^ s * (4294967296 * 2 ^ (32 - s)) = 4294967296 * (2 ^ s * 2 ^ (32 - s)) := by grind
    rw [e, ← this]
  rw [Nat.div_div_eq_div_mul, Nat.mul_comm, ← Nat.div_div_eq_div_mul, h1]
  have e1 : x + 4294967296 * (y + 4294967296 * K) = x + 4294967296 * y + 2 ^ s * (4294967296 * 2 ^ (32 - s) * K) := by
    rw [← Nat.mul_assoc (2 ^ s), ← e0]
    omega
  rw [e1, Nat.add_mul_div_left _ _ (Nat.pow_pos (by omega)), Nat.mul_assoc, Nat.add_mul_mod_self_left]
theorem mod_step (Y M : Nat) : Y % (M * 4294967296) = Y % M + M * (Y / M % 4294967296) := Nat.mod_mul

/-- a first guess is not too small -/
theorem k_ge {q V U h top P : Nat} (hq : q * V ≤ U) (hU : U < (h + 1) * P) (hV : top * P ≤ V) (ht : 0 < top) : q ≤ h / top := by
  rw [Nat.le_div_iff_mul_le ht]
  have h1 : q * top * P ≤ q * V := by
    have := Nat.mul_le_mul_left q hV
    rwa [← Nat.mul_assoc] at this
  have : q * top * P < (h + 1) * P := by omega
  have := Nat.lt_of_mul_lt_mul_right this
  omega
/-- a guess that the next word shows too great is too great -/
theorem k_dec {V U h top next u2 g r P U2 V2 : Nat} (hU : U = h * (4294967296 * P) + u2 * P + U2) (hU2 : U2 < P) (hV : V = top * (4294967296 * P) + next * P + V2) (hg : g * top + r = h) (hc : r * 4294967296 + u2 < g * next) : U < g * V := by
  have h1 : (r * 4294967296 + u2 + 1) * P ≤ g * next * P := Nat.mul_le_mul_right _ hc
  have e1 : (r * 4294967296 + u2 + 1) * P = r * (4294967296 * P) + u2 * P + P := by grind
  have e2 : h * (4294967296 * P) = g * top * (4294967296 * P) + r * (4294967296 * P) := by rw [← hg]; grind
  have e3 : g * V = g * top * (4294967296 * P) + g * next * P + g * V2 := by rw [hV]; grind
  rw [e3, hU, e2]
  omega
/-- a guess that the next word does not show too great is too great by one at most -/
theorem k_exit {V U h top next u2 g r P U2 V2 : Nat} (hU : U = h * (4294967296 * P) + u2 * P + U2) (hV : V = top * (4294967296 * P) + next * P + V2) (hV2 : V2 < P) (ht : 0 < top) (hg : g * top + r = h) (hb : g < 4294967296) (hc : g * next ≤ r * 4294967296 + u2) : g * V < U + V := by
  have h1 : g * next * P ≤ (r * 4294967296 + u2) * P := Nat.mul_le_mul_right _ hc
  have e1 : (r * 4294967296 + u2) * P = r * (4294967296 * P) + u2 * P := by grind
  have e2 : h * (4294967296 * P) = g * top * (4294967296 * P) + r * (4294967296 * P) := by rw [← hg]; grind
  have e3 : g * V = g * top * (4294967296 * P) + g * next * P + g * V2 := by rw [hV]; grind
  have h2 : g * V2 ≤ 4294967295 * V2 := Nat.mul_le_mul_right _ (by omega)
  have h3 : 1 * (4294967296 * P) ≤ top * (4294967296 * P) := Nat.mul_le_mul_right _ ht
  rw [e3, hU, e2]
  rw [hV]
  omega

/-- one step: what was subtracted once too often is added back -/
theorem k_step {A Q V X q Bj : Nat} (hBj : 0 < Bj) (hA : A = Q * V * (4294967296 * Bj) + X) (hq : q = X / Bj / V) (hV : 0 < V) :
    q * V * Bj ≤ X ∧ A = (Q * 4294967296 + q) * V * Bj + (X - q * V * Bj) ∧ X - q * V * Bj < V * Bj := by
  have h1 : q * V ≤ X / Bj := by rw [hq]; exact Nat.div_mul_le_self _ _
  have h2 : X / Bj < (q + 1) * V := by rw [hq, Nat.mul_comm]; exact Nat.lt_mul_div_succ _ hV
  have h3 : X / Bj * Bj ≤ X := Nat.div_mul_le_self _ _
  have h4 : X < (X / Bj + 1) * Bj := by rw [Nat.mul_comm]; exact Nat.lt_mul_div_succ _ hBj
  have h5 : q * V * Bj ≤ X := Nat.le_trans (Nat.mul_le_mul_right _ h1) h3
  have h6 : (X / Bj + 1) * Bj ≤ (q + 1) * V * Bj := Nat.mul_le_mul_right _ h2
  have e1 : (q + 1) * V * Bj = q * V * Bj + V * Bj := by grind
  have e2 : (Q * 4294967296 + q) * V * Bj = Q * V * (4294967296 * Bj) + q * V * Bj := by grind
  refine ⟨h5, ?_, ?_⟩
  · rw [e2, hA]; omega
  · omega

/-- what is known while a digit is guessed -/
structure Gs (U V h top next u2 P : Nat) : Prop where
  ex : ∃ U2 V2, U = h * (4294967296 * P) + u2 * P + U2 ∧ U2 < P ∧ V = top * (4294967296 * P) + next * P + V2 ∧ V2 < P
  top0 : 0 < top
  next1 : next < 4294967296
  lt : U < V * 4294967296
theorem Gs.pos {U V h top next u2 P : Nat} (G : Gs U V h top next u2 P) : 0 < V := by
  rcases Nat.eq_zero_or_pos V with e | e
  · have := G.lt; rw [e] at this; omega
  · exact e
theorem Gs.start {U V h top next u2 P : Nat} (G : Gs U V h top next u2 P) (hu : u2 < 4294967296) : U / V ≤ h / top := by
  obtain ⟨U2, V2, e1, l1, e2, _⟩ := G.ex
  refine k_ge (V := V) (U := U) (P := 4294967296 * P) (Nat.div_mul_le_self _ _) ?_ (by omega) G.top0
  have : u2 * P ≤ 4294967295 * P := Nat.mul_le_mul_right _ (by omega)
  rw [Nat.add_mul]
  omega
theorem Gs.down {U V h top next u2 P g r : Nat} (G : Gs U V h top next u2 P) (hg : g * top + r = h) (hc : 4294967295 < g ∨ r * 4294967296 + u2 < g * next) : U / V ≤ g - 1 ∧ 0 < g ∧ (g - 1) * top + (r + top) = h := by
  obtain ⟨U2, V2, e1, l1, e2, _⟩ := G.ex
  have h1 : U / V < g := by
    rcases hc with hc | hc
    · have : U / V < 4294967296 := (Nat.div_lt_iff_lt_mul G.pos).2 (by rw [Nat.mul_comm]; exact G.lt)
      omega
    · exact (Nat.div_lt_iff_lt_mul G.pos).2 (k_dec e1 l1 e2 hg hc)
  obtain ⟨k, rfl⟩ : ∃ k, g = k + 1 := ⟨g - 1, (Nat.succ_pred_eq_of_pos (Nat.lt_of_le_of_lt (Nat.zero_le _) h1)).symm⟩
  refine ⟨by simp only [Nat.add_sub_cancel]; exact Nat.lt_succ_iff.1 h1, by simp, ?_⟩
  rw [Nat.add_sub_cancel, ← hg, Nat.add_mul]
  omega
theorem Gs.high {U V h top next u2 P : Nat} (G : Gs U V h top next u2 P) : h ≤ top * 4294967296 + next := by
  obtain ⟨U2, V2, e1, l1, e2, l2⟩ := G.ex
  have h0 := G.lt
  have h1 : V * 4294967296 < (top * 4294967296 + next + 1) * (4294967296 * P) := by
    have : V + 1 ≤ (top * 4294967296 + next + 1) * P := by
      have e : (top * 4294967296 + next + 1) * P = top * (4294967296 * P) + next * P + P := by grind
      omega
    have := Nat.mul_le_mul_right 4294967296 this
    have e : (top * 4294967296 + next + 1) * P * 4294967296 = (top * 4294967296 + next + 1) * (4294967296 * P) := by grind
    omega
  have h2 : h * (4294967296 * P) < (top * 4294967296 + next + 1) * (4294967296 * P) := by omega
  have := Nat.lt_of_mul_lt_mul_right h2
  omega
theorem Gs.stop {U V h top next u2 P g r : Nat} (G : Gs U V h top next u2 P) (hg : g * top + r = h) (hc : (g ≤ 4294967295 ∧ g * next ≤ r * 4294967296 + u2) ∨ 4294967295 < r) : g ≤ 4294967295 ∧ g ≤ U / V + 1 := by
  obtain ⟨U2, V2, e1, l1, e2, l2⟩ := G.ex
  have hb : g ≤ 4294967295 ∧ g * next ≤ r * 4294967296 + u2 := by
    rcases hc with hc | hc
    · exact hc
    · have hh := G.high
      have hn := G.next1
      have h1 : g < 4294967296 := by
        have : g * top < 4294967296 * top := by rw [Nat.mul_comm 4294967296]; omega
        exact Nat.lt_of_mul_lt_mul_right this
      refine ⟨by omega, ?_⟩
      have : g * next ≤ 4294967295 * 4294967295 := Nat.mul_le_mul (by omega) (by omega)
      omega
  refine ⟨hb.1, ?_⟩
  have h1 := k_exit e1 e2 l2 G.top0 hg (by omega) hb.2
  have h2 : U < (U / V + 1) * V := by rw [Nat.mul_comm]; exact Nat.lt_mul_div_succ _ G.pos
  have h3 : g * V < (U / V + 1 + 1) * V := by rw [Nat.add_mul (U / V + 1)]; omega
  have := Nat.lt_of_mul_lt_mul_right h3
  omega

/-- nothing was borrowed: the guess was right -/
theorem k_fine {X Y X' g V Bj M c d un : Nat} (hBj : 0 < Bj) (hV : 0 < V) (hq : X / Bj / V ≤ g) (he : X + (c + d) * M = Y + g * V * Bj) (hs : X' + M * un = Y + M * (un - c - d)) (hu : c + d ≤ un) : g = X / Bj / V ∧ X = X' + g * V * Bj := by
  have e : M * un = M * (un - c - d) + (c + d) * M := by
    rw [Nat.mul_comm (c + d) M, ← Nat.mul_add]
    congr 1
    omega
  have h1 : X = X' + g * V * Bj := by omega
  refine ⟨Nat.le_antisymm ?_ hq, h1⟩
  rw [Nat.le_div_iff_mul_le hV, Nat.le_div_iff_mul_le hBj]
  omega
/-- something was borrowed: the guess was one too great -/
theorem k_over {X Y X' g V Bj M c d un : Nat} (hq : X / Bj / V ≤ g) (hg : g ≤ X / Bj / V + 1) (he : X + (c + d) * M = Y + g * V * Bj) (hs : X' + M * un = Y + M * (un + 4294967296 - c - d)) (hcd : c + d ≤ 4294967296) (hl : X' < 4294967296 * M) :
    g = X / Bj / V + 1 ∧ X + 4294967296 * M = X' + g * V * Bj := by
  have e : M * (un + 4294967296 - c - d) + (c + d) * M = M * un + 4294967296 * M := by
    rw [Nat.mul_comm (c + d) M, ← Nat.mul_add, Nat.mul_comm 4294967296 M, ← Nat.mul_add]
    congr 1
    omega
  have h1 : X + 4294967296 * M = X' + g * V * Bj := by omega
  refine ⟨?_, h1⟩
  rcases Nat.eq_or_lt_of_le hq with q | q
  · exfalso
    have h2 : g * V ≤ X / Bj := by rw [← q]; exact Nat.div_mul_le_self _ _
    have h3 : g * V * Bj ≤ X := Nat.le_trans (Nat.mul_le_mul_right _ h2) (Nat.div_mul_le_self _ _)
    omega
  · omega
/-- added back -/
theorem k_back {X X' Y2 X3 q V Bj M c w1 : Nat} (hBj : 0 < Bj) (hV : 0 < V) (hM : V * Bj ≤ M) (hq : q = X / Bj / V) (h1 : X + 4294967296 * M = X' + (q + 1) * V * Bj) (h2 : Y2 + c * M = X' + V * Bj) (h3 : Y2 / M = w1) (hw : w1 < 4294967296) (hc : c ≤ 1) (hs : X3 + M * w1 = Y2 + M * ((w1 + c) % 4294967296)) : X3 = X - q * V * Bj := by
  have hM0 : 0 < M := Nat.lt_of_lt_of_le (Nat.mul_pos hV hBj) hM
  have g1 := (k_step (A := X) (Q := 0) (X := X) hBj (by simp) hq hV)
  have e1 : (q + 1) * V * Bj = q * V * Bj + V * Bj := by grind
  have l1 := g1.1
  have l2 := g1.2.2
  have h4 : Y2 + c * M = 4294967296 * M + (X - q * V * Bj) := by omega
  have h5 : Y2 = M * w1 + Y2 % M := by rw [← h3]; exact (Nat.div_add_mod _ _).symm
  have h6 := Nat.mod_lt Y2 hM0
  rcases Nat.eq_or_lt_of_le hc with hc1 | hc1
  · subst hc1
    have h7 : w1 = 4294967295 := by
      rcases Nat.lt_or_ge w1 4294967295 with g | g
      · have : M * (w1 + 1 + 1) ≤ M * 4294967296 := Nat.mul_le_mul_left _ (by omega)
        rw [Nat.mul_add, Nat.mul_add] at this
        omega
      · omega
    subst h7
    omega
  · obtain rfl : c = 0 := by omega
    have : M * (w1 + 1) ≤ M * 4294967296 := Nat.mul_le_mul_left _ (by omega)
    rw [Nat.mul_add] at this
    omega
end Bg
end Go.Proofs.YtdkgapapdjefdaaGreatDoor

/- Division word by word: more plain facts. -/
namespace Go.Proofs.YtdkgapapdjefdaaGreatDoor
namespace Bg

theorem top_div {n : Nat} (_ : n ≠ 0) {x : Nat} (hx : (wd n)[(wd n).length - 1]? = some x) : n / 4294967296 ^ ((wd n).length - 1) = x := by
  have hl := (List.getElem?_eq_some_iff.1 hx).1
  have h := val_word (wd_ok n) hx
  rw [val_none (wd_ok n) (i := (wd n).length - 1 + 1) (by omega), val_wd] at h
  omega
theorem len_ge {n k : Nat} (h : 4294967296 ^ k ≤ n) : k + 1 ≤ (wd n).length := by
  rcases Nat.lt_or_ge k (wd n).length with g | g
  · exact g
  · have h1 := wd_lt n
    have h2 : 4294967296 ^ (wd n).length ≤ 4294967296 ^ k := Nat.pow_le_pow_right (by omega) g
    omega
/-- a divisor whose greatest bit is set -/
theorem norm_facts {b x k s : Nat} (b0 : b ≠ 0) (hx : (wd b)[(wd b).length - 1]? = some x) (h1 : x < 2 ^ k) (h2 : 2 ^ k ≤ 2 * x) (hk : s + k = 32) :
    (wd (b * 2 ^ s)).length = (wd b).length ∧ ∃ t, (wd (b * 2 ^ s))[(wd b).length - 1]? = some t ∧ 2147483648 ≤ t ∧ t < 4294967296 ∧ b * 2 ^ s / 4294967296 ^ ((wd b).length - 1) = t := by
  have hl := (List.getElem?_eq_some_iff.1 hx).1
  have e := top_div b0 hx
  obtain ⟨l, hll⟩ : ∃ l, (wd b).length = l + 1 := ⟨(wd b).length - 1, by omega⟩
  rw [hll, Nat.add_sub_cancel] at e ⊢
  have hM : 0 < 4294967296 ^ l := Nat.pow_pos (by omega)
  have l1 : x * 4294967296 ^ l ≤ b := by rw [← e]; exact Nat.div_mul_le_self _ _
  have l2 : b < (x + 1) * 4294967296 ^ l := by rw [← e, Nat.mul_comm]; exact Nat.lt_mul_div_succ _ hM
  have p1 : 2 ^ k * 2 ^ s = 4294967296 := by rw [← Nat.pow_add, Nat.add_comm, hk]
  have q1 : 2147483648 ≤ x * 2 ^ s := by
    have : 2 ^ k * 2 ^ s ≤ 2 * x * 2 ^ s := Nat.mul_le_mul_right _ h2
    rw [p1, Nat.mul_assoc] at this
    omega
  have q2 : (x + 1) * 2 ^ s ≤ 4294967296 := by
    have : (x + 1) * 2 ^ s ≤ 2 ^ k * 2 ^ s := Nat.mul_le_mul_right _ h1
    omega
  have u1 : 2147483648 * 4294967296 ^ l ≤ b * 2 ^ s := by
    have h3 : x * 4294967296 ^ l * 2 ^ s ≤ b * 2 ^ s := Nat.mul_le_mul_right _ l1
    have h4 : 2147483648 * 4294967296 ^ l ≤ x * 2 ^ s * 4294967296 ^ l := Nat.mul_le_mul_right _ q1
    have e3 : x * 4294967296 ^ l * 2 ^ s = x * 2 ^ s * 4294967296 ^ l := by grind
    omega
  have u2 : b * 2 ^ s < 4294967296 * 4294967296 ^ l := by
    have h3 : b * 2 ^ s < (x + 1) * 4294967296 ^ l * 2 ^ s := Nat.mul_lt_mul_of_pos_right l2 (Nat.pow_pos (by omega))
    have h4 : (x + 1) * 2 ^ s * 4294967296 ^ l ≤ 4294967296 * 4294967296 ^ l := Nat.mul_le_mul_right _ q2
    have e3 : (x + 1) * 4294967296 ^ l * 2 ^ s = (x + 1) * 2 ^ s * 4294967296 ^ l := by grind
    omega
  have len : (wd (b * 2 ^ s)).length = l + 1 := by
    have g1 := wd_len_le (l + 1) (b * 2 ^ s) (by rw [Nat.pow_succ, Nat.mul_comm (4294967296 ^ l)]; exact u2)
    have g2 := len_ge (n := b * 2 ^ s) (k := l) (by omega)
    omega
  refine ⟨len, ?_⟩
  have hv0 : b * 2 ^ s ≠ 0 := by omega
  obtain ⟨t, ht, ht0, htb⟩ := wd_last hv0
  have e2 := top_div hv0 ht
  rw [len, Nat.add_sub_cancel] at ht e2
  refine ⟨t, ht, ?_, htb, e2⟩
  rw [← e2, Nat.le_div_iff_mul_le hM]
  exact u1
theorem left_len {a s : Nat} (hs : s < 32) : (wd (a * 2 ^ s)).length ≤ (wd a).length + 1 := by
  refine wd_len_le _ _ ?_
  have h1 := wd_lt a
  have h2 : 2 ^ s ≤ 2 ^ 31 := Nat.pow_le_pow_right (by omega) (by omega)
  have h3 : a * 2 ^ s ≤ a * 4294967296 := Nat.mul_le_mul_left _ (by omega)
  have h4 : a * 4294967296 < 4294967296 ^ (wd a).length * 4294967296 := Nat.mul_lt_mul_of_pos_right h1 (by omega)
  rw [Nat.pow_succ]
  omega
theorem start_lt {a b s m lb t : Nat} (hs : s < 32) (hm : (wd a).length + 1 = lb + m) (hlb : 1 ≤ lb) (ht : 2147483648 ≤ t) (h5 : b * 2 ^ s / 4294967296 ^ (lb - 1) = t) : a * 2 ^ s < b * 2 ^ s * 4294967296 ^ (m + 1) := by
  have h1 := wd_lt a
  have h2 : 2 ^ s ≤ 2 ^ 31 := Nat.pow_le_pow_right (by omega) (by omega)
  have h3 : a * 2 ^ s < 4294967296 ^ (wd a).length * 4294967296 := by
    have h4 : a * 2 ^ s ≤ a * 4294967296 := Nat.mul_le_mul_left _ (by omega)
    have h5 : a * 4294967296 < 4294967296 ^ (wd a).length * 4294967296 := Nat.mul_lt_mul_of_pos_right h1 (by omega)
    omega
  have hM : 0 < 4294967296 ^ (lb - 1) := Nat.pow_pos (by omega)
  have h6 : t * 4294967296 ^ (lb - 1) ≤ b * 2 ^ s := by rw [← h5]; exact Nat.div_mul_le_self _ _
  have h7 : 1 * 4294967296 ^ (lb - 1) ≤ t * 4294967296 ^ (lb - 1) := Nat.mul_le_mul_right _ (by omega)
  have h8 : 4294967296 ^ (lb - 1) * 4294967296 ^ (m + 1) ≤ b * 2 ^ s * 4294967296 ^ (m + 1) := Nat.mul_le_mul_right _ (by omega)
  rw [← Nat.pow_add, show lb - 1 + (m + 1) = (wd a).length + 1 by omega, Nat.pow_succ] at h8
  omega

/-- what the guessing of a digit knows, out of the words -/
theorem gs_of {us vs : List Nat} {j n top next u0 u1 u2 : Nat} (ou : Ok us) (ov : Ok vs) (hn : vs.length = n + 2) (h0 : us[j + n + 2]? = some u0) (h1 : us[j + n + 1]? = some u1) (h2 : us[j + n]? = some u2) (ht : vs[n + 1]? = some top) (hx : vs[n]? = some next) (ht0 : 0 < top) (hX : val us < val vs * (4294967296 * 4294967296 ^ j)) :
    Gs (val us / 4294967296 ^ j) (val vs) (u1 + 4294967296 * u0) top next u2 (4294967296 ^ n) := by
  have hB : 0 < 4294967296 ^ j := Nat.pow_pos (by omega)
  have hlt : val us / 4294967296 ^ j < val vs * 4294967296 := by
    rw [Nat.div_lt_iff_lt_mul hB, Nat.mul_assoc]; exact hX
  have hvl := val_lt ov
  rw [hn] at hvl
  have z : val us / 4294967296 ^ (j + n + 3) = 0 := by
    refine Nat.div_eq_of_lt (Nat.lt_trans hX ?_)
    have : val vs * (4294967296 * 4294967296 ^ j) < 4294967296 ^ (n + 2) * (4294967296 * 4294967296 ^ j) := Nat.mul_lt_mul_of_pos_right hvl (by omega)
    have e : 4294967296 ^ (n + 2) * (4294967296 * 4294967296 ^ j) = 4294967296 ^ (j + n + 3) := by rw [Nat.mul_comm 4294967296, ← Nat.pow_succ, ← Nat.pow_add]; congr 1; omega
    omega
  have w0 := val_word ou h0
  have w1 := val_word ou h1
  have w2 := val_word ou h2
  rw [z] at w0
  rw [w0] at w1
  rw [w1] at w2
  have x1 := val_word ov ht
  rw [val_none ov (i := n + 1 + 1) (by omega)] at x1
  have x2 := val_word ov hx
  rw [x1] at x2
  have dm := Nat.div_add_mod (val us / 4294967296 ^ j) (4294967296 ^ n)
  have dv := Nat.div_add_mod (val vs) (4294967296 ^ n)
  rw [Nat.div_div_eq_div_mul, ← Nat.pow_add, w2] at dm
  rw [x2] at dv
  refine ⟨⟨val us / 4294967296 ^ j % 4294967296 ^ n, val vs % 4294967296 ^ n, ?_, Nat.mod_lt _ (Nat.pow_pos (by omega)), ?_, Nat.mod_lt _ (Nat.pow_pos (by omega))⟩, ht0, ov.at hx, hlt⟩
  · rw [← dm]
    grind
  · rw [← dv]
    grind
theorem keep_lt {us ts : List Nat} {i : Nat} (ou : Ok us) (ot : Ok ts) (hl : ts.length = us.length) (hi : i ≤ us.length) (h : ∀ l, i ≤ l → ts[l]? = us[l]?) (hx : val us < 4294967296 ^ i) : val ts < 4294967296 ^ i := by
  have e : ts.drop i = us.drop i := by
    apply List.ext_getElem?
    intro n
    rw [List.getElem?_drop, List.getElem?_drop]
    exact h _ (by omega)
  have h1 := (val_div us ou i hi).1
  rw [Nat.div_eq_of_lt hx] at h1
  rw [val_take_drop ts i (by omega), e, ← h1, Nat.mul_zero, Nat.add_zero]
  have := val_lt (ot.take i)
  rwa [List.length_take, Nat.min_eq_left (by omega)] at this
theorem borrow2 {x c y e1 e2 : Nat} (hx : x < 4294967296) (hc : c < 4294967296) (hy : y ≤ 1) (h1 : e1 = (x + 18446744073709551616 - c) % 18446744073709551616) (h2 : e2 = (e1 + 18446744073709551616 - y) % 18446744073709551616) : x + e2 / 9223372036854775808 * 4294967296 = e2 % 4294967296 + c + y ∧ e2 / 9223372036854775808 ≤ 1 := by omega
theorem ms_step {X Y Y2 M c d c2 d2 x wd low p g v y Bi Bj : Nat} (h : X + (c + d) * M = Y + g * v * Bj) (hs : Y2 + M * x = Y + M * wd) (h1 : c2 * 4294967296 + low = c + p) (h2 : x + d2 * 4294967296 = wd + low + d) (hp : p = g * y) (hM : M = Bi * Bj) : X + (c2 + d2) * (M * 4294967296) = Y2 + g * (v + Bi * y) * Bj := by
  have e1 : (c2 + d2) * (M * 4294967296) + M * x = M * (c + p + (wd + d)) := by
    have : c2 * 4294967296 + (x + d2 * 4294967296) = c + p + (wd + d) := by omega
    rw [← this]
    grind
  have e2 : M * (c + p + (wd + d)) = (c + d) * M + M * wd + M * p := by grind
  have e3 : g * (v + Bi * y) * Bj = g * v * Bj + M * p := by rw [hp, hM]; grind
  omega
theorem ab_step {X Y Y2 M c x T v y Bi Bj : Nat} (h : Y + c * M = X + v * Bj) (hs : Y2 + M * x = Y + M * (T % 4294967296)) (hT : T = c + (x + y)) (hM : M = Bi * Bj) : Y2 + T / 4294967296 * (M * 4294967296) = X + (v + Bi * y) * Bj := by
  have e := carry M T
  have e2 : M * T = c * M + M * x + M * y := by rw [hT]; grind
  have e3 : (v + Bi * y) * Bj = v * Bj + M * y := by rw [hM]; grind
  omega
/-- what a round of the division leaves -/
theorem k_fin {A V X X3 q0 j : Nat} {qs : List Nat} (hq : j < qs.length) (hV : 0 < V) (hE : A = val (qs.drop (j + 1)) * V * 4294967296 ^ (j + 1) + X) (h0 : q0 = X / 4294967296 ^ j / V) (h3 : X3 = X - q0 * V * 4294967296 ^ j) :
    A = val ((qs.set j q0).drop j) * V * 4294967296 ^ j + X3 ∧ X3 < V * 4294967296 ^ j := by
  rw [Nat.pow_succ, Nat.mul_comm (4294967296 ^ j)] at hE
  have h := k_step (Nat.pow_pos (by omega)) hE h0 hV
  rw [h3, drop_set hq, val]
  refine ⟨?_, h.2.2⟩
  have e := h.2.1
  rw [show val (qs.drop (j + 1)) * 4294967296 + q0 = q0 + 4294967296 * val (qs.drop (j + 1)) by omega] at e
  exact e
theorem k_lt {V lb j : Nat} {us : List Nat} (hV : V < 4294967296 ^ lb) (hX : val us < V * 4294967296 ^ (j + 1)) : val us < 4294967296 ^ (j + lb + 1) ∧ V * 4294967296 ^ j ≤ 4294967296 ^ (lb + j) := by
  constructor
  · have h : V * 4294967296 ^ (j + 1) ≤ 4294967296 ^ lb * 4294967296 ^ (j + 1) := Nat.mul_le_mul_right _ (Nat.le_of_lt hV)
    rw [← Nat.pow_add, show lb + (j + 1) = j + lb + 1 by omega] at h
    omega
  · rw [Nat.pow_add]
    exact Nat.mul_le_mul_right _ (Nat.le_of_lt hV)
end Bg
end Go.Proofs.YtdkgapapdjefdaaGreatDoor
