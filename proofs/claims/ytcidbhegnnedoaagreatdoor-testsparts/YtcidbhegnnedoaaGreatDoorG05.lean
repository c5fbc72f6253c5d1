/- Walks: padded. -/
import Derived.Test.YtcidbhegnnedoaaGreatDoorG04
import Derived.Lib.Strings
import Derived.Test.YtcidbhegnnedoaaGreatDoorG01
namespace Go.Proofs.YtcidbhegnnedoaaGreatDoor
open Go.RowKit

/-- the cells of n digits -/
def rowL (D : Nat → Nat) (n : Nat) : List Value := (List.range n).map fun j => Value.int .u8 (D j : Int)
theorem rowL_len (D : Nat → Nat) (n : Nat) : (rowL D n).length = n := by simp [rowL]
theorem rowL_at (D : Nat → Nat) {n j : Nat} (h : j < n) : (rowL D n)[j]? = some (Value.int .u8 (D j : Int)) := by simp [rowL, h]
theorem rowL_set (D : Nat → Nat) (n i d : Nat) : (rowL D n).set i (Value.int .u8 (d : Int)) = rowL (Dm.upd D i d) n := by
  apply List.ext_getElem?
  intro j
  rw [List.getElem?_set]
  by_cases h : j < n
  · by_cases e : i = j
    · subst e; rw [if_pos rfl, if_pos (by rw [rowL_len]; exact h), rowL_at _ h, Dm.upd_same]
    · rw [if_neg e, rowL_at _ h, rowL_at _ h, Dm.upd_other (fun q => e q.symm)]
  · have a : (rowL D n)[j]? = none := List.getElem?_eq_none (by rw [rowL_len]; omega)
    have b : (rowL (Dm.upd D i d) n)[j]? = none := List.getElem?_eq_none (by rw [rowL_len]; omega)
    rw [a, b]
    by_cases e : i = j
    · subst e; rw [if_pos rfl, if_neg (by rw [rowL_len]; exact h)]
    · rw [if_neg e]
theorem rowL_zero (n : Nat) : List.replicate n (Value.int .u8 0) = rowL (fun _ => 0) n := by
  apply List.ext_getElem?
  intro j
  by_cases h : j < n
  · rw [rowL_at _ h]; simp [h]
  · rw [List.getElem?_eq_none (by simp; omega), List.getElem?_eq_none (by rw [rowL_len]; omega)]
theorem rowL_congr {D E : Nat → Nat} {n : Nat} (h : ∀ j, j < n → D j = E j) : rowL D n = rowL E n := by
  unfold rowL
  refine List.map_congr_left fun j hj => ?_
  rw [h j (by simpa using hj)]
theorem DS.own {w : World} {base e g n cap : Nat} {D : Nat → Nat} (h : w.ownsRow base e 1 (.slice (some ⟨g, 0, none⟩) n cap) n (rowL D n)) (hD : ∀ j, D j < 10) (hn : n ≤ 1000) : DS w g 0 n D := by
  refine ⟨?_, fun j hj => ?_, hD, hn⟩
  · rcases h.2 with ⟨h', _⟩ | ⟨g', cap', cur, h', _, hg, _⟩
    · simp at h'
    · simp only [Value.slice.injEq, Option.some.injEq, Addr.mk.injEq, and_true, true_and] at h'
      obtain ⟨rfl, rfl⟩ := h'
      rcases Nat.lt_or_ge g w.heap.size with q | q
      · exact q
      · rw [Array.getElem?_eq_none q] at hg; simp at hg
  · rw [Nat.zero_add, h.cellAt j (by omega), rowL_at _ hj]

theorem info_u8 : (Tryz.prog.info? 5).map (fun i => (i.zero, i.size, i.bytes)) = some (some (.int .u8 0), 1, 1) := by kernel_rfl

theorem pad_quo {N W q m : Nat} (h : q = N / 10 ^ (W - (m + 1))) (hm : m + 1 ≤ W) : q / 10 = N / 10 ^ (W - m) := by
  rw [h, Nat.div_div_eq_div_mul, ← Nat.pow_succ, show (W - (m + 1)).succ = W - m by omega]
theorem pad_dig {N W q m : Nat} {R : Nat → Nat} (h : q = N / 10 ^ (W - (m + 1))) (_hm : m + 1 ≤ W) (hR : ∀ j, m + 1 ≤ j → j < W → R j = Dm.pd N W j) : ∀ j, m ≤ j → j < W → Dm.upd R m (q % 10) j = Dm.pd N W j := by
  intro j a b
  by_cases e : j = m
  · subst e; rw [Dm.upd_same, h]; unfold Dm.pd; rw [show W - 1 - j = W - (j + 1) by omega]
  · rw [Dm.upd_other e]; exact hR j (by omega) b
end Go.Proofs.YtcidbhegnnedoaaGreatDoor

/- Walks: isDigits, digitsOf. -/
namespace Go.Proofs.YtcidbhegnnedoaaGreatDoor
open Go.RowKit

/-- is it a digit's sign? -/
def isDg (c : UInt8) : Bool := decide (48 ≤ c.toNat) && decide (c.toNat ≤ 57)
/-- digits, one at least -/
def dgs (l : List UInt8) : Bool := l.all isDg && !l.isEmpty
theorem isDg_bd {c : UInt8} (h : isDg c = true) : 48 ≤ c.toNat ∧ c.toNat ≤ 57 := by
  unfold isDg at h; simpa using h
/-- the digits of a text -/
def dOf (l : List UInt8) : Nat → Nat := fun j => (l.getD j 48).toNat - 48
theorem dOf_lt {l : List UInt8} (h : l.all isDg = true) : ∀ j, dOf l j < 10 := by
  intro j
  unfold dOf
  by_cases hj : j < l.length
  · rw [List.getD_eq_getElem?_getD, List.getElem?_eq_getElem hj]
    have := isDg_bd ((List.all_eq_true.1 h) _ (List.getElem_mem hj))
    simp
    omega
  · rw [List.getD_eq_getElem?_getD, List.getElem?_eq_none (by omega)]
    simp

theorem toList_at (s : ByteArray) (k : Nat) (h : k < s.size) : s.data.toList[k]? = some s[k] := by
  have h' : k < s.data.toList.length := by simpa using h
  rw [List.getElem?_eq_getElem h']
  rfl

theorem beq_nil (s : ByteArray) : (s.toList == []) = s.data.toList.isEmpty := by
  rw [Lib.toList_data]
  cases s.data.toList <;> rfl

set_option maxHeartbeats 400000 in
theorem isDigits_any (s : ByteArray) (w : World) (hs : s.size ≤ 1000) :
    Calls Tryz.prog 103 #[.string s] w fun e w' => e = .returned (.bool (dgs s.data.toList)) ∧ w' = w := by
  go_enter Tryz.func103, Tryz.ntmps103
  go_wp2
  go_loop [6] (fun i => ∃ k : Nat, k ≤ s.size ∧ i = .int .i64 k ∧ Hid (∀ j (h : j < s.size), j < k → isDg s[j] = true)) (fun i => s.size - (intOf i).toNat)
  case atStart => exact ⟨0, Nat.zero_le _, rfl, hide (fun j _ h => absurd h (by omega))⟩
  case round =>
    obtain ⟨k, hk, rfl, H⟩ := hrel
    by_cases hlt : k < s.size
    · by_cases hd : isDg s[k] = true
      · have hb := isDg_bd hd
        have h1 : ¬ (s[k].toNat : Int) < 48 := by omega
        have h2 : ¬ 57 < (s[k].toNat : Int) := by omega
        have H2 : Hid (∀ j (h : j < s.size), j < k + 1 → isDg s[j] = true) := by
          refine hide fun j hj hjk => ?_
          by_cases e : j = k
          · subst e; exact hd
          · exact unhide H j hj (by omega)
        clear hd hb
        go_wp2
        all_goals
          go_round
          case rel => exact ⟨k + 1, by omega, by go_num, H2⟩
          case measure => simp [intOf]; omega
      · have hno : dgs s.data.toList = false := by
          unfold dgs
          rw [Bool.and_eq_false_iff]
          left
          rw [List.all_eq_false]
          exact ⟨s[k], List.mem_of_getElem? (toList_at s k hlt), hd⟩
        have hb : (s[k].toNat : Int) < 48 ∨ 57 < (s[k].toNat : Int) := by
          unfold isDg at hd
          simp at hd
          omega
        have HN := hide hno
        clear hno hd
        rcases hb with hb | hb
        · go_wp2
          go_ret
          exact ⟨by rw [unhide HN]; rfl, rfl⟩
        · have h1 : ¬ (s[k].toNat : Int) < 48 := by omega
          go_wp2
          go_ret
          exact ⟨by rw [unhide HN]; rfl, rfl⟩
    · have hall : s.data.toList.all isDg = true := by
        rw [List.all_eq_true]
        intro x hx
        obtain ⟨j, hj, rfl⟩ := List.getElem_of_mem hx
        have hj' : j < s.size := by simpa using hj
        exact unhide H j hj' (by omega)
      have E : Hid (dgs s.data.toList = !s.data.toList.isEmpty) := by
        unfold dgs; rw [hall]; exact hide (by simp)
      have E2 := hide (beq_nil s)
      clear hall
      go_wp2
      all_goals
        go_ret
        refine ⟨?_, rfl⟩
        rw [unhide E, ← unhide E2]
        first | rfl | simp_all

theorem dOf_at (s : ByteArray) (k : Nat) (h : k < s.size) : dOf s.data.toList k = s[k].toNat - 48 := by
  unfold dOf
  rw [List.getD_eq_getElem?_getD, toList_at s k h]
  rfl

theorem dig_fill {l : List UInt8} {R : Nat → Nat} {k d : Nat} (hR : ∀ j, j < k → R j = dOf l j) (hd : d = dOf l k) : ∀ j, j < k + 1 → Dm.upd R k d j = dOf l j := by
  intro j hj
  by_cases e : j = k
  · subst e; rw [Dm.upd_same, hd]
  · rw [Dm.upd_other e]; exact hR j (by omega)

set_option maxHeartbeats 400000 in
theorem digitsOf_any (s : ByteArray) (w : World) (hs : s.size ≤ 1000) (hd : s.data.toList.all isDg = true) :
    Calls Tryz.prog 104 #[.string s] w fun e w' => e = .returned (.slice (some ⟨w.heap.size, 0, none⟩) s.size s.size) ∧ DS w' w.heap.size 0 s.size (dOf s.data.toList) ∧ Below w.heap.size w w' := by
  obtain ⟨i0, hi, hz0, hz1, hz2⟩ := info_parts info_u8
  have HD := hide hd
  clear hd
  go_enter Tryz.func104, Tryz.ntmps104
  go_wp2_with (at_make; refine wpList_make_full _ rfl _ _ 146 rfl w.heap.size 5 i0 (.int .u8 0) 1 Tryz.underlying146 hi hz0 hz1 _ _ _ _ s.size rfl rfl rfl rfl ?c1 ?c2 ?c3 ?_)
  case c1 => rw [hz2]; omega
  case c2 => unfold maxLen; omega
  case c3 => exact Nat.le_refl _
  intro w1 hown hgrow
  have hb1 : Below w.heap.size w w1 := (Below.refl _ _).grown hgrow (Nat.le_refl _) (fun k hk => by simp at hk)
  rw [toList_madeCells_one, rowL_zero] at hown
  clear hgrow hi hz0 hz1 hz2
  go_wp2
  go_loopw [10] (fun i wr => ∃ (k : Nat) (R : Nat → Nat), k ≤ s.size ∧ i = .int .i64 (k : Int) ∧ Hid (∀ j, j < k → R j = dOf s.data.toList j) ∧ wr.ownsRow w.heap.size 5 1 (.slice (some ⟨w.heap.size, 0, none⟩) s.size s.size) s.size (rowL R s.size) ∧ Below w.heap.size w wr) (fun i _ => s.size - (intOf i).toNat)
  case atStart => exact ⟨0, _, Nat.zero_le _, rfl, hide (fun j h => absurd h (by omega)), hown, hb1⟩
  case round =>
    obtain ⟨k, R, hk, rfl, HR, hownr, hbr⟩ := hrel
    clear hown hb1
    by_cases hlt : k < s.size
    · have hb := isDg_bd ((List.all_eq_true.1 (unhide HD)) _ (List.mem_of_getElem? (toList_at s k hlt)))
      have hfr := hownr.frozenAt k
      have hcl := (hownr.cellAt k (by omega)).trans (rowL_at R (by omega))
      have hst := hide (hownr.stored k (.int .u8 ((s[k].toNat - 48 : Nat) : Int))).1
      clear hownr
      rw [rowL_set] at hst
      have E1 := hide (dig_fill (unhide HR) (dOf_at s k hlt).symm)
      have hb1 : (48 : Int) ≤ (s[k].toNat : Int) := by omega
      have hb2 : (s[k].toNat : Int) ≤ 57 := by omega
      clear hb
      go_wp2
      rw [show (s[k].toNat : Int) - 48 = ((s[k].toNat - 48 : Nat) : Int) by omega]
      refine ⟨⟨k + 1, Dm.upd R k (s[k].toNat - 48), by omega, by go_num, E1, unhide hst, hbr.setCell (Nat.le_refl _) _⟩, ?_⟩
      simp [intOf]
      omega
    · obtain rfl : k = s.size := by omega
      have HF := hide (rowL_congr (D := R) (E := dOf s.data.toList) (n := s.size) (fun j hj => unhide HR j hj))
      go_wp2
      go_ret
      rw [unhide HF] at hownr
      exact ⟨rfl, DS.own hownr (dOf_lt (unhide HD)) hs, hbr⟩
end Go.Proofs.YtcidbhegnnedoaaGreatDoor

/- Walks: trimmed, number. -/
namespace Go.Proofs.YtcidbhegnnedoaaGreatDoor
open Go.RowKit

theorem ret_near {a b c a' b' c' : Int} (h1 : a = a') (h2 : b = b') (h3 : c = c') :
    Ending.returned (.tuple #[.agg #[.int .i64 a, .int .i64 b], .int .i64 c]) = .returned (.tuple #[.agg #[.int .i64 a', .int .i64 b'], .int .i64 c']) := by rw [h1, h2, h3]

set_option maxHeartbeats 400000 in
theorem trimmed_zero (x : Int) (w : World) :
    Calls Tryz.prog 118 #[.int .i64 0, .int .i64 x] w fun e w' => e = .returned (.tuple #[.agg #[.int .i64 0, .int .i64 0], .int .i64 0]) ∧ Below w.heap.size w w' := by
  go_enter Tryz.func118, Tryz.ntmps118
  go_wp2
  exact bodyPost_ret (v := .tuple #[.agg #[.int .i64 0, .int .i64 0], .int .i64 0]) (by simp [results, Tryz.results118, go_sem]) rfl ⟨rfl, (Below.refl _ _).alloc (Nat.le_refl _) _⟩

set_option maxHeartbeats 400000 in
theorem trimmed_some (c x : Int) (w : World) (h0 : (c == 0) = false) (h1 : -1000000000000000000 ≤ c) (h2 : c ≤ 1000000000000000000) (hx1 : -200 ≤ x) (hx2 : x ≤ 200) :
    Calls Tryz.prog 118 #[.int .i64 c, .int .i64 x] w fun e w' => ∃ (m : Int) (k : Nat), c = Dm.tens m k ∧ m.tmod 10 ≠ 0 ∧ ((40 < x + k ∧ e = .returned (.tuple #[.agg #[.int .i64 0, .int .i64 0], .int .i64 4])) ∨ (x + k ≤ 40 ∧ e = .returned (.tuple #[.agg #[.int .i64 m, .int .i64 (x + k)], .int .i64 0]))) ∧ Below w.heap.size w w' := by
  go_enter Tryz.func118, Tryz.ntmps118
  go_wp2
  go_loop [0, 1] (fun a b => ∃ (m : Int) (k : Nat), a = .int .i64 m ∧ b = .int .i64 (x + k) ∧ Hid (c = Dm.tens m k) ∧ Hid (m ≠ 0) ∧ -1000000000000000000 ≤ m ∧ m ≤ 1000000000000000000 ∧ k ≤ 18) (fun a _ => (intOf a).natAbs)
  case atStart => exact ⟨c, 0, rfl, by simp, hide rfl, hide (by simpa using h0), h1, h2, by omega⟩
  case round =>
    obtain ⟨m, k, rfl, rfl, H, hm0, hm1, hm2, hk⟩ := hrel
    by_cases hm : m.tmod 10 = 0
    · have hm' : (m.tmod 10 == 0) = true := by simp [hm]
      have T := hide (Dm.td10 m)
      have Hm := hide hm
      obtain ⟨q1, q2, q3, q4, q5⟩ := Dm.tdiv_facts (unhide hm0) hm
      have hq1 := hide q1
      have hk' := Dm.tens_k (unhide H) hm (unhide hm0) h1 h2
      clear hm q1
      go_wp2
      go_round
      case rel => exact ⟨_, k + 1, rfl, by go_num, hide (Dm.tens_step (unhide H) (unhide hq1)), hide q2, by omega, by omega, by omega⟩
      case measure => exact q3
    · have hm' : (m.tmod 10 == 0) = false := by simp [hm]
      have Hm := hide hm
      clear hm
      by_cases hg : 40 < x + (k : Int)
      · go_wp2
        exact bodyPost_ret (v := .tuple #[.agg #[.int .i64 0, .int .i64 0], .int .i64 4]) (by simp [results, Tryz.results118, go_sem]) rfl ⟨m, k, unhide H, unhide Hm, .inl ⟨hg, rfl⟩, (Below.refl _ _).alloc (Nat.le_refl _) _⟩
      · go_wp2
        exact bodyPost_ret (v := .tuple #[.agg #[.int .i64 m, .int .i64 (x + k)], .int .i64 0]) (by simp [results, Tryz.results118, go_sem]) rfl ⟨m, k, unhide H, unhide Hm, .inr ⟨by omega, rfl⟩, (Below.refl _ _).alloc (Nat.le_refl _) _⟩

theorem trimmed_any (c x : Int) (w : World) (h1 : -1000000000000000000 ≤ c) (h2 : c ≤ 1000000000000000000) (hx1 : -200 ≤ x) (hx2 : x ≤ 200) :
    Calls Tryz.prog 118 #[.int .i64 c, .int .i64 x] w fun e w' => e = .returned (.tuple #[.agg #[.int .i64 (Dm.fC c x), .int .i64 (Dm.fE c x)], .int .i64 (Dm.fR c x)]) ∧ Below w.heap.size w w' := by
  by_cases h0 : c = 0
  · subst h0
    exact (trimmed_zero x w).mono fun e w' h => h
  · refine (trimmed_some c x w (by simp [h0]) h1 h2 hx1 hx2).mono ?_
    rintro e w' ⟨m, k, hc, hm, he, hb⟩
    obtain ⟨t1, t2⟩ := Dm.tz_at hc hm (by omega)
    refine ⟨?_, hb⟩
    rcases he with ⟨g, rfl⟩ | ⟨g, rfl⟩
    · refine ret_near ?_ ?_ ?_ <;> simp only [Dm.fC, Dm.fE, Dm.fR, if_neg h0, t1, if_pos g]
    · have g' : ¬ 40 < x + (k : Int) := by omega
      refine ret_near ?_ ?_ ?_ <;> simp only [Dm.fC, Dm.fE, Dm.fR, if_neg h0, t1, t2, if_neg g']

set_option maxHeartbeats 400000 in
theorem number_any (B R : Bool) (sv : Value) (x : Int) (hsv : ∃ ao n c, sv = .slice ao n c) (q : Nat) (y : Int) (w : World) (hq : (q : Int) ≤ 1000000000000000000) (hx1 : -200 ≤ y) (hx2 : y ≤ 200) :
    Calls Tryz.prog 113 #[.agg #[.bool B, sv, .int .i64 x, .bool R], .int .u64 (q : Int), .int .i64 y] w fun e w' => e = .returned (.tuple #[.agg #[.int .i64 (Dm.fC (Dm.sg B q) y), .int .i64 (Dm.fE (Dm.sg B q) y)], .int .i64 (Dm.fR (Dm.sg B q) y)]) ∧ Below w.heap.size w w' := by
  obtain ⟨ao, n, cp, rfl⟩ := hsv
  cases B
  · go_enter Tryz.func113, Tryz.ntmps113
    go_wp2_with fail
    refine (trimmed_any (q : Int) y _ (by omega) (by omega) hx1 hx2).mono ?_
    rintro e w1 ⟨rfl, hb⟩
    obtain ⟨hc, hf⟩ := bcell hb
    have hz : w.heap.size + 2 ≤ w1.heap.size := by have := hb.size; simp at this; omega
    have hb0 : Below w.heap.size w w1 := (((Below.refl _ _).alloc (Nat.le_refl _) _).alloc (by simp) _).trans (hb.mono (by simp; omega))
    go_wp2
    exact bodyPost_ret (v := .tuple #[.agg #[.int .i64 (Dm.fC (q : Int) y), .int .i64 (Dm.fE (q : Int) y)], .int .i64 (Dm.fR (q : Int) y)]) (by simp [results, Tryz.results113, go_sem, hc]) rfl ⟨rfl, (hb0.setCell (by simp) _).setCell (by simp) _⟩
  · go_enter Tryz.func113, Tryz.ntmps113
    go_wp2_with fail
    refine (trimmed_any (-(q : Int)) y _ (by omega) (by omega) hx1 hx2).mono ?_
    rintro e w1 ⟨rfl, hb⟩
    obtain ⟨hc, hf⟩ := bcell hb
    have hz : w.heap.size + 2 ≤ w1.heap.size := by have := hb.size; simp at this; omega
    have hb0 : Below w.heap.size w w1 := (((Below.refl _ _).alloc (Nat.le_refl _) _).alloc (by simp) _).trans (hb.mono (by simp; omega))
    go_wp2
    exact bodyPost_ret (v := .tuple #[.agg #[.int .i64 (Dm.fC (-(q : Int)) y), .int .i64 (Dm.fE (-(q : Int)) y)], .int .i64 (Dm.fR (-(q : Int)) y)]) (by simp [results, Tryz.results113, go_sem, hc]) rfl ⟨rfl, (hb0.setCell (by simp) _).setCell (by simp) _⟩

end Go.Proofs.YtcidbhegnnedoaaGreatDoor

/- Walks: noughtsAhead, goesUp, wholeAt. -/
namespace Go.Proofs.YtcidbhegnnedoaaGreatDoor
open Go.RowKit

set_option maxHeartbeats 400000 in
theorem noughts_any (b off n cap : Nat) (D : Nat → Nat) (w : World) (h : DS w b off n D) :
    Calls Tryz.prog 112 #[.slice (some ⟨b, off, none⟩) n cap] w fun e w' => ∃ z : Nat, e = .returned (.int .i64 (z : Int)) ∧ z ≤ n ∧ (∀ j, j < z → D j = 0) ∧ (z < n → D z ≠ 0) ∧ w' = w := by
  have hl := h.len
  go_enter Tryz.func112, Tryz.ntmps112
  go_wp2
  go_loop [3] (fun i => ∃ k : Nat, k ≤ n ∧ i = .int .i64 (k : Int) ∧ Hid (∀ j, j < k → D j = 0)) (fun i => n - (intOf i).toNat)
  case atStart => exact ⟨0, Nat.zero_le _, rfl, hide (fun j hj => absurd hj (by omega))⟩
  case round =>
    obtain ⟨k, hk, rfl, H⟩ := hrel
    by_cases hlt : k < n
    · have hcell := h.cell k hlt
      by_cases hd : D k = 0
      · have hd' : ((D k : Int) == 0) = true := by simp [hd]
        have Hd := hide hd
        clear hd
        go_wp2
        go_round
        case rel => exact ⟨k + 1, by omega, by go_num, hide (fun j hj => by rcases Nat.lt_or_ge j k with g | g; · exact unhide H j g
                                                                            · rw [show j = k by omega]; exact unhide Hd)⟩
        case measure => simp [intOf]; omega
      · have hd' : ((D k : Int) == 0) = false := by simp [hd]
        have Hd := hide hd
        clear hd
        go_wp2
        go_ret
        exact ⟨k, rfl, hk, unhide H, fun _ => unhide Hd, rfl⟩
    · go_wp2
      go_ret
      exact ⟨k, rfl, hk, unhide H, fun g => absurd g hlt, rfl⟩

theorem ret_bool {a b : Bool} (h : a = b) : Ending.returned (.bool a) = .returned (.bool b) := by rw [h]

set_option maxHeartbeats 400000 in
theorem goesUp_out (B R odd : Bool) (b off n cap : Nat) (x kept : Int) (w : World) (h : kept < 0 ∨ (n : Int) ≤ kept) :
    Calls Tryz.prog 119 #[.agg #[.bool B, .slice (some ⟨b, off, none⟩) n cap, .int .i64 x, .bool R], .int .i64 kept, .bool odd] w fun e w' => e = .returned (.bool false) ∧ Below w.heap.size w w' := by
  by_cases h0 : kept < 0
  · clear h
    go_enter Tryz.func119, Tryz.ntmps119
    go_wp2
    go_ret
    exact ⟨rfl, (Below.refl _ _).alloc (Nat.le_refl _) _⟩
  · have h1 : (n : Int) ≤ kept := by omega
    clear h
    go_enter Tryz.func119, Tryz.ntmps119
    go_wp2
    go_ret
    exact ⟨rfl, (Below.refl _ _).alloc (Nat.le_refl _) _⟩

set_option maxHeartbeats 400000 in
theorem goesUp_in (B R odd : Bool) (b off n cap : Nat) (x : Int) (k : Nat) (D : Nat → Nat) (w : World) (hD : DS w b off n D) (hk : k < n) (h5 : ((D k : Int) != 5) = true) :
    Calls Tryz.prog 119 #[.agg #[.bool B, .slice (some ⟨b, off, none⟩) n cap, .int .i64 x, .bool R], .int .i64 (k : Int), .bool odd] w fun e w' => e = .returned (.bool (decide (5 < (D k : Int)))) ∧ Below w.heap.size w w' := by
  have hl := hD.len
  have hblk := hD.blk
  have hcell := hD.cell k hk
  have hc2 : (w.alloc (.cells #[.bool B, .slice (some ⟨b, off, none⟩) n cap, .int .i64 x, .bool R] 179)).cell? ⟨b, off + k, none⟩ = some (.int .u8 (D k : Int)) := by
    rw [← hcell]; exact ((Below.refl w.heap.size w).alloc (Nat.le_refl _) _).cell (p := ⟨b, off + k, none⟩) hblk
  go_enter Tryz.func119, Tryz.ntmps119
  go_wp2
  go_ret
  exact ⟨rfl, (Below.refl _ _).alloc (Nat.le_refl _) _⟩

set_option maxHeartbeats 400000 in
theorem goesUp_5 (B R odd : Bool) (b off n cap : Nat) (x : Int) (k : Nat) (D : Nat → Nat) (w : World) (hD : DS w b off n D) (hcap : n ≤ cap) (hk : k < n) (h5 : ((D k : Int) != 5) = false) :
    Calls Tryz.prog 119 #[.agg #[.bool B, .slice (some ⟨b, off, none⟩) n cap, .int .i64 x, .bool R], .int .i64 (k : Int), .bool odd] w fun e w' => e = .returned (.bool (odd || R || decide (0 < Dm.suf D n (n - k - 1)))) ∧ Below w.heap.size w w' := by
  have hl := hD.len
  have hblk := hD.blk
  have hcell := hD.cell k hk
  have hbw := (Below.refl w.heap.size w).alloc (Nat.le_refl _) (.cells #[.bool B, .slice (some ⟨b, off, none⟩) n cap, .int .i64 x, .bool R] 179)
  have hc2 : (w.alloc (.cells #[.bool B, .slice (some ⟨b, off, none⟩) n cap, .int .i64 x, .bool R] 179)).cell? ⟨b, off + k, none⟩ = some (.int .u8 (D k : Int)) := by
    rw [← hcell]; exact hbw.cell (p := ⟨b, off + k, none⟩) hblk
  have hD2 := hide (hD.below hbw)
  clear hbw
  have E0 := fun (z : Nat) a b c => hide (Dm.suf_z D hk (z := z) a b c)
  cases odd
  · cases R
    · by_cases hcp : cap = k + 1
      · subst hcp
        go_enter Tryz.func119, Tryz.ntmps119
        go_wp2_with fail
        refine (noughts_any b off 0 0 (fun j => D (k + 1 + j)) _ ((unhide hD2).empty off (fun j => hD.dig _) rfl)).mono ?_
        rintro e w1 ⟨z, rfl, hz, hz0, hz1, rfl⟩
        have E1 := E0 z (by omega) hz0 (fun g => absurd g (by omega))
        clear hz0 hz1 E0
        go_wp2
        go_ret
        refine ⟨ret_bool ?_, (Below.refl _ _).alloc (Nat.le_refl _) _⟩
        rw [unhide E1]; simp; try omega
      · go_enter Tryz.func119, Tryz.ntmps119
        go_wp2_with fail
        refine (noughts_any b (off + (k + 1)) (n - (k + 1)) _ (fun j => D (k + 1 + j)) _ ((unhide hD2).drop (k + 1) (by omega))).mono ?_
        rintro e w1 ⟨z, rfl, hz, hz0, hz1, rfl⟩
        have E1 := E0 z hz hz0 hz1
        clear hz0 hz1 E0
        go_wp2
        go_ret
        refine ⟨ret_bool ?_, (Below.refl _ _).alloc (Nat.le_refl _) _⟩
        rw [unhide E1]; simp; try omega
    · go_enter Tryz.func119, Tryz.ntmps119
      go_wp2
      all_goals
        go_ret
        exact ⟨rfl, (Below.refl _ _).alloc (Nat.le_refl _) _⟩
  · go_enter Tryz.func119, Tryz.ntmps119
    go_wp2
    all_goals
      go_ret
      exact ⟨rfl, (Below.refl _ _).alloc (Nat.le_refl _) _⟩

theorem goesUp_any (B R odd : Bool) (b off n cap : Nat) (x kept : Int) (D : Nat → Nat) (w : World) (hD : DS w b off n D) (hcap : n ≤ cap) :
    Calls Tryz.prog 119 #[.agg #[.bool B, .slice (some ⟨b, off, none⟩) n cap, .int .i64 x, .bool R], .int .i64 kept, .bool odd] w fun e w' => e = .returned (.bool (Dm.gu D n kept odd R)) ∧ Below w.heap.size w w' := by
  by_cases h : kept < 0 ∨ (n : Int) ≤ kept
  · rw [Dm.gu_out odd R h]
    exact goesUp_out B R odd b off n cap x kept w h
  · obtain ⟨k, rfl⟩ : ∃ k : Nat, kept = (k : Int) := ⟨kept.toNat, by omega⟩
    by_cases h5 : D k = 5
    · rw [Dm.gu_5 odd R (by omega) h5]
      exact goesUp_5 B R odd b off n cap x k D w hD hcap (by omega) (by simp [h5])
    · rw [Dm.gu_in odd R (by omega) h5]
      refine (goesUp_in B R odd b off n cap x k D w hD (by omega) (by simp; omega)).mono ?_
      rintro e w' ⟨rfl, hb⟩
      exact ⟨ret_bool (by simp; omega), hb⟩

end Go.Proofs.YtcidbhegnnedoaaGreatDoor

/- Walks: wholeAt. -/
namespace Go.Proofs.YtcidbhegnnedoaaGreatDoor
open Go.RowKit

set_option maxHeartbeats 1000000 in
theorem wholeAt_any (B R : Bool) (b off n cap : Nat) (x y : Int) (D : Nat → Nat) (w : World) (hD : DS w b off n D) (hcap : n ≤ cap) (hx1 : -1000 ≤ x) (hx2 : x ≤ 1000) (hy1 : -1000 ≤ y) (hy2 : y ≤ 1000) (hk18 : (n : Int) + x - y ≤ 18) :
    Calls Tryz.prog 114 #[.agg #[.bool B, .slice (some ⟨b, off, none⟩) n cap, .int .i64 x, .bool R], .int .i64 y] w fun e w' => e = .returned (.int .u64 (Dm.sc (Dm.val D n) (x - y) R : Int)) ∧ Below w.heap.size w w' := by
  have hl := hD.len
  have hblk := hD.blk
  have hbw := (Below.refl w.heap.size w).alloc (Nat.le_refl _) (.cells #[.bool B, .slice (some ⟨b, off, none⟩) n cap, .int .i64 x, .bool R] 179)
  have hD2 := hide (hD.below hbw)
  have hbw' := hide hbw
  have hdig := hide hD.dig
  have W := hide (Dm.whole_eq hD.dig n x y R)
  clear hbw hD
  go_enter Tryz.func114, Tryz.ntmps114
  go_wp2
  go_loop [6, 17] (fun a c => ∃ (q k : Nat), a = .int .u64 (q : Int) ∧ c = .int .i64 (k : Int) ∧ Hid (q = Dm.vx D n k) ∧ k ≤ ((n : Int) + x - y).toNat) (fun _ c => ((n : Int) + x - y).toNat - (intOf c).toNat)
  case atStart => exact ⟨0, 0, rfl, rfl, hide (Dm.vx_zero D n).symm, Nat.zero_le _⟩
  case round =>
    obtain ⟨q, k, rfl, rfl, H, hk⟩ := hrel
    by_cases hlt : (k : Int) < (n : Int) + x - y
    · have hq : q < 100000000000000000 := by
        have a := Dm.vx_lt (unhide hdig) n k
        have c := Dm.p10_17 (k := k) (by omega)
        rw [unhide H]; omega
      have hd := unhide hdig k
      by_cases hin : k < n
      · have hcell := (unhide hD2).cell k hin
        have H2 := hide (Dm.vx_in (D := D) hin)
        go_wp2
        go_round
        case rel => exact ⟨q * 10 + D k, k + 1, by go_num, by go_num, hide (by rw [unhide H2, unhide H]), by omega⟩
        case measure => simp [intOf]; omega
      · have H2 := hide (Dm.vx_out (D := D) (n := n) (k := k) (by omega))
        go_wp2
        go_round
        case rel => exact ⟨q * 10, k + 1, by go_num, by go_num, hide (by rw [unhide H2, unhide H]), by omega⟩
        case measure => simp [intOf]; omega
    · have hq : q ≤ 1000000000000000000 := by
        have a := Dm.vx_lt (unhide hdig) n k
        have c := Dm.p10_18 (k := k) (by omega)
        rw [unhide H]; omega
      have ek : ((n : Int) + x - y).toNat = k := by omega
      have H3 : Hid (q + Dm.one (Dm.gu D n ((n : Int) + x - y) (decide (q % 2 = 1)) R) = Dm.sc (Dm.val D n) (x - y) R) := by
        have w9 := unhide W
        rw [ek, ← unhide H] at w9
        exact w9
      clear W hk ek H
      by_cases hodd : q % 2 = 1
      · have ho : ((q : Int) % 2 == 1) = true := by simp; omega
        have H4 : Hid (q + Dm.one (Dm.gu D n ((n : Int) + x - y) true R) = Dm.sc (Dm.val D n) (x - y) R) := by
          have := unhide H3; rw [decide_eq_true hodd] at this; exact this
        clear hodd H3
        go_wp2_with fail
        refine (goesUp_any B R true b off n cap x _ D _ (unhide hD2) hcap).mono ?_
        rintro e w1 ⟨rfl, hb⟩
        have hb0 : Below w.heap.size w w1 := (unhide hbw').trans (hb.mono (by simp))
        cases hg : Dm.gu D n ((n : Int) + x - y) true R
        all_goals
          have H5 := hide (unhide H4)
          rw [hg] at H5
          clear hg H4
          go_wp2
          go_ret
          exact ⟨ret_int (by rw [← unhide H5]; simp [Dm.one]), hb0⟩
      · have ho : ((q : Int) % 2 == 1) = false := by simp; omega
        have H4 : Hid (q + Dm.one (Dm.gu D n ((n : Int) + x - y) false R) = Dm.sc (Dm.val D n) (x - y) R) := by
          have := unhide H3; rw [decide_eq_false hodd] at this; exact this
        clear hodd H3
        go_wp2_with fail
        refine (goesUp_any B R false b off n cap x _ D _ (unhide hD2) hcap).mono ?_
        rintro e w1 ⟨rfl, hb⟩
        have hb0 : Below w.heap.size w w1 := (unhide hbw').trans (hb.mono (by simp))
        cases hg : Dm.gu D n ((n : Int) + x - y) false R
        all_goals
          have H5 := hide (unhide H4)
          rw [hg] at H5
          clear hg H4
          go_wp2
          go_ret
          exact ⟨ret_int (by rw [← unhide H5]; simp [Dm.one]), hb0⟩
end Go.Proofs.YtcidbhegnnedoaaGreatDoor
