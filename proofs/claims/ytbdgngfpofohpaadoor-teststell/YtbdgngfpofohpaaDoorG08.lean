/- Walks: small. -/
import Derived.Test.YtbdgngfpofohpaaDoorG05
import Derived.Test.YtbdgngfpofohpaaDoorG06
import Derived.Laws.CopyOwn
namespace Go.Proofs.YtbdgngfpofohpaaDoor
open Go.RowKit

set_option maxHeartbeats 2000000 in
theorem small_go (p : Option Addr) (cap d : Nat) (us : List Nat) (w : World) (hu : WS w (.slice p us.length cap) us) (l1 : us.length ≤ 1000000) (hd0 : 0 < d) (hd : d < 4294967296) :
    Calls Tryd.prog 90 #[.slice p us.length cap, .int .u32 (d : Int)] w fun e w' => ∃ u, e = .returned (.tuple #[u, .int .u32 ((Bg.val us % d : Nat) : Int)]) ∧ WS w' u (Bg.wd (Bg.val us / d)) ∧ Below w.heap.size w w' := by
  have CA := hide (WS.at hu)
  have OA := hide (fun i x h => hu.cells.2.2.2.1.at (i := i) (x := x) h)
  clear hu
  have hmk := mkw w us.length (us.length : Int) rfl (by omega)
  have hdn : ((d : Int) == 0) = false := by rw [beq_eq_false_iff_ne]; omega
  go_enter Tryd.func90, Tryd.ntmps90
  go_wp2_with fail
  go_loopw [7, 8] (fun rv i wr => ∃ (m r : Nat) (qs : List Nat), m ≤ us.length ∧ i = .int .i64 ((m : Int) - 1) ∧ rv = .int .u64 (r : Int) ∧ r < d ∧ qs.length = us.length ∧ Hid (Bg.Ok qs) ∧ Hid (∀ j x, j < m → qs[j]? = some x → x = 0) ∧ Hid (Bg.val (us.drop m) = Bg.val (qs.drop m) * d + r) ∧ Hid (RW wr w.heap.size qs) ∧ Hid (Below w.heap.size w wr)) (fun _ i _ => (intOf i + 1).toNat)
  case atStart => exact ⟨us.length, 0, List.replicate us.length 0, Nat.le_refl _, rfl, rfl, hd0, by simp, hide (Bg.Ok.zeros _), hide (fun j x _ => Bg.zero_rep _ j x (Nat.zero_le _)), hide (by rw [List.drop_length, List.drop_of_length_le (by simp)]; simp [Bg.val]), hide (RW.made _ _), hide (below_new _ _)⟩
  case round =>
    obtain ⟨m, r, qs, hml, rfl, rfl, hrd, hql, HO, HZ, HE, HR, HB⟩ := hrel
    clear hmk
    have fz := (unhide HR).frozen
    rcases Nat.eq_zero_or_pos m with h0 | h0
    · subst h0
      have T : Hid (∀ wx, RW wx w.heap.size qs → Calls Tryd.prog 86 #[.slice (some ⟨w.heap.size, 0, none⟩) us.length us.length] wx fun e w' => ∃ u, e = .returned u ∧ WS w' u (Bg.wd (Bg.val us / d)) ∧ Below wx.heap.size wx w') := hide fun wx h => by
        have e := unhide HE
        rw [List.drop_zero, List.drop_zero] at e
        have t := trim_any (.slice (some ⟨w.heap.size, 0, none⟩) us.length us.length) qs wx (by
          have := WS.whole h (unhide HO) (cap := us.length) (by simp [hql]) (by omega)
          simpa [hql] using this)
        rwa [show Bg.val qs = Bg.val us / d by rw [e, Nat.mul_comm, Nat.mul_add_div hd0, Nat.div_eq_of_lt hrd, Nat.add_zero]] at t
      have HM : Hid (r = Bg.val us % d) := hide (by
        have e := unhide HE
        rw [List.drop_zero, List.drop_zero] at e
        rw [e, Nat.mul_comm, Nat.mul_add_mod, Nat.mod_eq_of_lt hrd])
      have hr32 : r < 4294967296 := by omega
      clear fz
      go_wp2_with fail
      refine (unhide T _ (unhide HR)).mono ?_
      rintro e w1 ⟨u, rfl, hu, hb⟩
      have HU := hide hu
      have HB1 := hide hb
      clear hu hb
      go_wp2
      refine bodyPost_ret (v := .tuple #[u, .int .u32 (r : Int)]) (by simp [results, Tryd.results90, go_sem]) rfl ?_
      rw [← unhide HM]
      exact ⟨_, rfl, unhide HU, below_via (unhide HB) (unhide HB1)⟩
    · obtain ⟨k, rfl⟩ : ∃ k, m = k + 1 := ⟨m - 1, by omega⟩
      obtain ⟨x, hx⟩ : ∃ x, us[k]? = some x := ⟨_, List.getElem?_eq_getElem (by omega)⟩
      obtain ⟨b1, o1, rfl, l1, c1⟩ := unhide CA k x hx
      have d1 := ((unhide HB).cell (p := ⟨b1, o1 + k, none⟩) l1).trans c1
      have hxb : x < 4294967296 := unhide OA k x hx
      obtain ⟨r0, hr0⟩ : ∃ r0, qs[k]? = some r0 := ⟨_, List.getElem?_eq_getElem (by omega)⟩
      have d0 := (unhide HR).cell hr0
      have f0 := fz k
      have hk1 : ((k + 1 : Nat) : Int) - 1 = (k : Int) := by omega
      have hkl : (k : Int) < (us.length : Int) := by omega
      have hpos : (0 : Int) ≤ (k : Int) := by omega
      rw [hk1]
      have hr32 : r < 4294967296 := by omega
      have HOR := hide (or_shift2 hxb hr32)
      obtain ⟨h, hh⟩ : ∃ h, h = x + 4294967296 * r := ⟨_, rfl⟩
      rw [← hh] at HOR
      have hlt := Bg.small_lt hrd hxb hh
      have ht1 : ((h : Nat) : Int).tdiv (d : Int) = ((h / d : Nat) : Int) := rfl
      have ht2 : ((h : Nat) : Int).tmod (d : Int) = ((h % d : Nat) : Int) := rfl
      have HH := hide hh
      clear hh
      have HX := hide hx
      clear hx c1 hr0 fz hk1
      go_wp2
      rw [unhide HOR, ht1, ht2]
      obtain ⟨t, ht⟩ : ∃ t, t = h / d := ⟨_, rfl⟩
      rw [← ht] at hlt ⊢
      have hwt : IntKind.u64.wrap (t : Int) = (t : Int) := by rw [IntKind.wrap_u64]; omega
      have hwm : (t : Int) % 4294967296 = (t : Int) := by omega
      rw [hwt, hwm]
      go_roundw
      case rel => exact ⟨k, h % d, qs.set k t, by omega, rfl, rfl, Nat.mod_lt _ hd0, by simpa using hql, hide ((unhide HO).set _ hlt), hide (fun j z hj hz => by
          rw [List.getElem?_set_ne (by omega)] at hz
          exact unhide HZ j z (by omega) hz), hide (by
          rw [Bg.drop_set (by omega), List.drop_eq_getElem_cons (by omega : k < us.length), Bg.val, Bg.val, (List.getElem?_eq_some_iff.1 (unhide HX)).2, ht]
          exact Bg.small_step (unhide HE) (unhide HH)), hide ((unhide HR).set k t), hide (below_set (unhide HB) (Nat.le_refl _))⟩
      case measure => simp [intOf]

theorem small_any (u : Value) (a d : Nat) (w : World) (hu : WS w u (Bg.wd a)) (ha : (Bg.wd a).length ≤ 100000) (hd0 : 0 < d) (hd : d < 4294967296) :
    Calls Tryd.prog 90 #[u, .int .u32 (d : Int)] w fun e w' => ∃ u, e = .returned (.tuple #[u, .int .u32 ((a % d : Nat) : Int)]) ∧ WS w' u (Bg.wd (a / d)) ∧ Below w.heap.size w w' := by
  obtain ⟨p, cap, rfl, _⟩ := id hu
  have := small_go p cap d _ w hu (by omega) hd0 hd
  rwa [Bg.val_wd] at this
end Go.Proofs.YtbdgngfpofohpaaDoor

/- Walks: left. -/
namespace Go.Proofs.YtbdgngfpofohpaaDoor
open Go.RowKit

theorem bits_or_u32_nat (a b : Nat) (ha : a < 4294967296) (hb : b < 4294967296) :
    bits .or .u32 (a : Int) (b : Int) = ((a ||| b : Nat) : Int) := by
  have hx : a ||| b < 2 ^ 32 := Nat.or_lt_two_pow (by omega) (by omega)
  have h1 : (BitVec.ofInt 32 (a : Int)).toNat = a := by
    rw [BitVec.ofInt_natCast, BitVec.toNat_ofNat]; exact Nat.mod_eq_of_lt (by omega)
  have h2 : (BitVec.ofInt 32 (b : Int)).toNat = b := by
    rw [BitVec.ofInt_natCast, BitVec.toNat_ofNat]; exact Nat.mod_eq_of_lt (by omega)
  show IntKind.u32.wrap ((BitVec.ofInt 32 (a : Int) ||| BitVec.ofInt 32 (b : Int)).toNat : Int) = _
  rw [BitVec.toNat_or, h1, h2]
  have e : IntKind.u32.wrap ((a ||| b : Nat) : Int) = ((a ||| b : Nat) : Int) % 4294967296 := rfl
  rw [e]
  omega
theorem shl_wrap {x s : Nat} (hx : x < 4294967296) (hs : s < 32) : IntKind.u64.wrap ((x : Int) * 2 ^ s) = ((x * 2 ^ s : Nat) : Int) ∧ x * 2 ^ s < 18446744073709551616 := by
  have l : 2 ^ s ≤ 2 ^ 31 := Nat.pow_le_pow_right (by omega) (by omega)
  have l2 : x * 2 ^ s ≤ 4294967295 * 2 ^ 31 := Nat.mul_le_mul (by omega) l
  have e : (x : Int) * 2 ^ s = ((x * 2 ^ s : Nat) : Int) := by simp
  rw [e, IntKind.wrap_u64]
  omega

set_option maxHeartbeats 2000000 in
theorem left_go (p : Option Addr) (cap s : Nat) (us : List Nat) (w : World) (hu : WS w (.slice p us.length cap) us) (h1 : 1 ≤ us.length) (l1 : us.length ≤ 1000000) (hs : s < 32) :
    Calls Tryd.prog 92 #[.slice p us.length cap, .int .u64 (s : Int)] w fun e w' => ∃ u, e = .returned u ∧ WS w' u (Bg.wd (Bg.val us * 2 ^ s)) ∧ Below w.heap.size w w' := by
  have CA := hide (WS.at hu)
  have OA := hide (fun i x h => hu.cells.2.2.2.1.at (i := i) (x := x) h)
  clear hu
  have g1 : ((us.length : Int) == 0) = false := by rw [beq_eq_false_iff_ne]; omega
  have hmk := mkw w (us.length + 1) ((us.length : Int) + 1) (by omega) (by omega)
  have q1 : ((s : Int)).tdiv 32 = 0 := by rw [Int.tdiv_eq_ediv_of_nonneg (by omega)]; omega
  have q2 : ((s : Int)).tmod 32 = (s : Int) := by rw [Int.tmod_eq_emod_of_nonneg (by omega)]; omega
  go_enter Tryd.func92, Tryd.ntmps92
  go_wp2_with fail
  go_loopw [8] (fun i wr => ∃ (m h : Nat) (rs : List Nat), m ≤ us.length ∧ i = .int .i64 (m : Int) ∧ rs.length = us.length + 1 ∧ Hid (Bg.Ok rs) ∧ Hid (∀ j x, m + 1 ≤ j → rs[j]? = some x → x = 0) ∧ Hid (rs[m]? = some h) ∧ h < 2 ^ s ∧ Hid (Bg.val rs = Bg.val (us.take m) * 2 ^ s) ∧ Hid (RW wr w.heap.size rs) ∧ Hid (Below w.heap.size w wr)) (fun i _ => us.length - (intOf i).toNat)
  case atStart => exact ⟨0, 0, List.replicate (us.length + 1) 0, Nat.zero_le _, rfl, by simp, hide (Bg.Ok.zeros _), hide (fun j x _ => Bg.zero_rep _ j x (Nat.zero_le _)), hide (by simp), Nat.pow_pos (by omega), hide (by rw [Bg.val_zeros]; simp [Bg.val]), hide (RW.made _ _), hide (below_new _ _)⟩
  case round =>
    obtain ⟨m, h, rs, hml, rfl, hrl, HO, HZ, HH, hh, HE, HR, HB⟩ := hrel
    clear hmk
    have fz := (unhide HR).frozen
    by_cases hlt : m < us.length
    · have hlt' : (m : Int) < (us.length : Int) := by omega
      have hlt2 : (m : Int) < (us.length : Int) + 1 := by omega
      have hlt3 : (m : Int) + 1 < (us.length : Int) + 1 := by omega
      obtain ⟨x, hx⟩ : ∃ x, us[m]? = some x := ⟨_, List.getElem?_eq_getElem hlt⟩
      obtain ⟨b1, o1, rfl, lb1, c1⟩ := unhide CA m x hx
      have hxb : x < 4294967296 := unhide OA m x hx
      have d1 := ((unhide HB).cell (p := ⟨b1, o1 + m, none⟩) lb1).trans c1
      have d0 := (unhide HR).cell (unhide HH)
      have f0 := fz m
      have f1 := fz (m + 1)
      have hne : ¬ b1 = w.heap.size := by omega
      have d3 : wr.cell? ⟨w.heap.size, m + 1, none⟩ = some (.int .u32 (0 : Int)) := by
        have e := List.getElem?_eq_getElem (show m + 1 < rs.length by omega)
        rw [unhide HZ (m + 1) _ (Nat.le_refl _) e] at e
        exact (unhide HR).cell e
      have HX := hide hx
      clear hx c1 fz
      obtain ⟨a1, a2, a3, a4⟩ := Bg.left_facts hs hxb hh
      obtain ⟨w1, w2⟩ := shl_wrap hxb hs
      obtain ⟨V, hV⟩ : ∃ V, V = x * 2 ^ s := ⟨_, rfl⟩
      rw [← hV] at a1 a2 a3 w1 w2
      have v1 : bits .or .u32 (h : Int) ((V : Int) % 4294967296) = ((h + V % 4294967296 : Nat) : Int) := by
        rw [← a1, ← bits_or_u32_nat h (V % 4294967296) (by omega) (by omega)]
        rfl
      have v2 : bits .or .u32 0 ((V : Int) / 4294967296) = ((V / 4294967296 : Nat) : Int) := by
        have := bits_or_u32_nat 0 (V / 4294967296) (by omega) (by omega)
        rw [Nat.zero_or] at this
        rw [← this]
        rfl
      have HV := hide hV
      clear hV
      go_wp2
      go_roundw
      case rel => exact ⟨m + 1, V / 4294967296, (rs.set m (h + V % 4294967296)).set (m + 1) (V / 4294967296), by omega, by go_num, by simpa using hrl, hide (((unhide HO).set _ a2).set _ (by omega)), hide (fun j z hj hz => by
          rw [List.getElem?_set_ne (by omega), List.getElem?_set_ne (by omega)] at hz
          exact unhide HZ j z (by omega) hz), hide (by rw [List.getElem?_set_self (by simp; omega)]), a3, hide (by
          have h1 := Bg.val_set rs m h (h + V % 4294967296) (unhide HH)
          have h2 : Bg.val ((rs.set m (h + V % 4294967296)).set (m + 1) (V / 4294967296)) = Bg.val (rs.set m (h + V % 4294967296)) + 4294967296 ^ m * 4294967296 * (V / 4294967296) := by
            rw [← Nat.pow_succ]
            exact Bg.val_set0 (fun j z hj hz => by
              rw [List.getElem?_set_ne (by omega)] at hz
              exact unhide HZ j z hj hz) (by simp; omega)
          rw [Bg.left_step h1 h2, Bg.val_succ us m x (unhide HX), unhide HE, Nat.add_mul, unhide HV, Nat.mul_assoc]), hide (by
          have := ((unhide HR).set m (h + V % 4294967296)).set (m + 1) (V / 4294967296)
          simpa using this), hide (below_set (below_set (unhide HB) (Nat.le_refl _)) (Nat.le_refl _))⟩
      case measure => simp [intOf]; omega
    · obtain rfl : m = us.length := by omega
      have T : Hid (∀ wx, RW wx w.heap.size rs → Calls Tryd.prog 86 #[.slice (some ⟨w.heap.size, 0, none⟩) (us.length + 1) (us.length + 1)] wx fun e w' => ∃ u, e = .returned u ∧ WS w' u (Bg.wd (Bg.val us * 2 ^ s)) ∧ Below wx.heap.size wx w') := hide fun wx h => by
        have e := unhide HE
        rw [List.take_length] at e
        have t := trim_any (.slice (some ⟨w.heap.size, 0, none⟩) (us.length + 1) (us.length + 1)) rs wx (by
          have := WS.whole h (unhide HO) (cap := us.length + 1) (by simp [hrl]) (by omega)
          simpa [hrl] using this)
        rwa [e] at t
      clear fz
      go_wp2_with fail
      refine (unhide T _ (unhide HR)).mono ?_
      rintro e w1 ⟨u, rfl, hu, hb⟩
      have HU := hide hu
      have HB1 := hide hb
      clear hu hb
      go_wp2
      go_ret
      exact ⟨_, rfl, unhide HU, below_via (unhide HB) (unhide HB1)⟩

theorem left_any (u : Value) (a s : Nat) (w : World) (hu : WS w u (Bg.wd a)) (ha : (Bg.wd a).length ≤ 100000) (h0 : a ≠ 0) (hs : s < 32) :
    Calls Tryd.prog 92 #[u, .int .u64 (s : Int)] w fun e w' => ∃ u, e = .returned u ∧ WS w' u (Bg.wd (a * 2 ^ s)) ∧ Below w.heap.size w w' := by
  obtain ⟨p, cap, rfl, _⟩ := id hu
  have := left_go p cap s _ w hu (by rw [Bg.wd_pos h0]; simp) (by omega) hs
  rwa [Bg.val_wd] at this

set_option maxHeartbeats 2000000 in
theorem len_go (b off cap n x : Nat) (w : World) (hn : n ≤ 1000000) (hc : w.cell? ⟨b, off + n, none⟩ = some (.int .u32 (x : Int))) (hx : x < 4294967296) (h0 : 0 < x) :
    Calls Tryd.prog 91 #[.slice (some ⟨b, off, none⟩) (n + 1) cap] w fun e w' => ∃ k, e = .returned (.int .i64 ((n * 32 + k : Nat) : Int)) ∧ 0 < k ∧ k ≤ 32 ∧ x < 2 ^ k ∧ 2 ^ k ≤ 2 * x ∧ w' = w := by
  have g1 : ((n : Int) + 1 == 0) = false := by rw [beq_eq_false_iff_ne]; omega
  have g2 : (n : Int) + 1 - 1 = (n : Int) := by omega
  have g3 : (n : Int) < (n : Int) + 1 := by omega
  go_enter Tryd.func91, Tryd.ntmps91
  go_wp2_with fail
  go_loopw [3, 4] (fun nv tv wr => ∃ k t : Nat, nv = .int .i64 (k : Int) ∧ tv = .int .u32 (t : Int) ∧ k ≤ 32 ∧ wr = w ∧ Hid (t = x / 2 ^ k) ∧ Hid (k = 0 ∨ 2 ^ k ≤ 2 * x)) (fun _ tv _ => (intOf tv).toNat)
  case atStart => exact ⟨0, x, rfl, rfl, by omega, rfl, hide (by simp), hide (.inl rfl)⟩
  case round =>
    obtain ⟨k, t, rfl, rfl, hk, rfl, HT, HK⟩ := hrel
    by_cases ht : t = 0
    · subst ht
      have HF : Hid (x < 2 ^ k) := hide (by
        have := (unhide HT).symm
        rcases Nat.div_eq_zero_iff.1 this with e | e
        · exact absurd e (Nat.pos_iff_ne_zero.1 (Nat.pow_pos (by omega)))
        · exact e)
      have hk0 : 0 < k := by
        rcases Nat.eq_zero_or_pos k with e | e
        · have := unhide HF; rw [e] at this; omega
        · exact e
      go_wp2
      go_ret
      refine ⟨k, ?_, hk0, hk, unhide HF, (unhide HK).resolve_left (by omega), rfl⟩
      rw [Int.natCast_add, Int.natCast_mul]
      rfl
    · have ht' : ((t : Int) != 0) = true := by simp; omega
      have HL : Hid (2 ^ k ≤ x) := hide (by
        rcases Nat.lt_or_ge x (2 ^ k) with e | e
        · have := unhide HT; rw [Nat.div_eq_of_lt e] at this; exact absurd this ht
        · exact e)
      have hk1 : k + 1 ≤ 32 := by
        rcases Nat.lt_or_ge k 32 with e | e
        · exact e
        · have h1 : 2 ^ 32 ≤ 2 ^ k := Nat.pow_le_pow_right (by omega) e
          have h2 := unhide HL
          omega
      go_wp2
      go_roundw
      case rel => exact ⟨k + 1, t / 2, by go_num, by go_num, hk1, trivial, hide (by rw [unhide HT, Nat.pow_succ, Nat.div_div_eq_div_mul]), hide (.inr (by have := unhide HL; rw [Nat.pow_succ]; omega))⟩
      case measure => simp [intOf]; omega
end Go.Proofs.YtbdgngfpofohpaaDoor

/- Walks: right. -/
namespace Go.Proofs.YtbdgngfpofohpaaDoor
open Go.RowKit

set_option maxHeartbeats 2000000 in
theorem right_go (p : Option Addr) (cap s : Nat) (us : List Nat) (w : World) (hu : WS w (.slice p us.length cap) us) (h1 : 1 ≤ us.length) (l1 : us.length ≤ 1000000) (hs : s < 32) :
    Calls Tryd.prog 93 #[.slice p us.length cap, .int .u64 (s : Int)] w fun e w' => ∃ u, e = .returned u ∧ WS w' u (Bg.wd (Bg.val us / 2 ^ s)) ∧ Below w.heap.size w w' := by
  have CA := hide (WS.at hu)
  have OA := hide (fun i x h => hu.cells.2.2.2.1.at (i := i) (x := x) h)
  have OK := hide hu.cells.2.2.2.1
  clear hu
  have g1 : ¬ (us.length : Int) ≤ 0 := by omega
  have hmk := mkw w us.length (us.length : Int) rfl (by omega)
  have hmk2 := mkw w us.length ((us.length : Int) - 0) (by omega) (by omega)
  have g2 : ¬ us.length ≤ 0 := by omega
  have g3 : ¬ us = [] := by intro e; rw [e] at h1; simp at h1
  have q1 : ((s : Int)).tdiv 32 = 0 := by rw [Int.tdiv_eq_ediv_of_nonneg (by omega)]; omega
  have q2 : ((s : Int)).tmod 32 = (s : Int) := by rw [Int.tmod_eq_emod_of_nonneg (by omega)]; omega
  go_enter Tryd.func93, Tryd.ntmps93
  go_wp2_with fail
  go_loopw [8] (fun i wr => ∃ (m : Nat) (rs : List Nat), m ≤ us.length ∧ i = .int .i64 (m : Int) ∧ rs.length = us.length ∧ Hid (Bg.Ok rs) ∧ Hid (∀ j x, m ≤ j → rs[j]? = some x → x = 0) ∧ Hid (Bg.val rs = Bg.val us / 2 ^ s % 4294967296 ^ m) ∧ Hid (RW wr w.heap.size rs) ∧ Hid (Below w.heap.size w wr)) (fun i _ => us.length - (intOf i).toNat)
  case atStart => exact ⟨0, List.replicate us.length 0, Nat.zero_le _, rfl, by simp, hide (Bg.Ok.zeros _), hide (Bg.zero_rep _), hide (by rw [Bg.val_zeros]; simp [Nat.mod_one]), hide (RW.made _ _), hide (below_new _ _)⟩
  case round =>
    obtain ⟨m, rs, hml, rfl, hrl, HO, HZ, HE, HR, HB⟩ := hrel
    clear hmk hmk2
    have fz := (unhide HR).frozen
    by_cases hlt : m < us.length
    · have hlt' : (m : Int) < (us.length : Int) := by omega
      obtain ⟨x, hx⟩ : ∃ x, us[m]? = some x := ⟨_, List.getElem?_eq_getElem hlt⟩
      obtain ⟨b1, o1, rfl, lb1, c1⟩ := unhide CA m x hx
      have hxb : x < 4294967296 := unhide OA m x hx
      have d1 := ((unhide HB).cell (p := ⟨b1, o1 + m, none⟩) lb1).trans c1
      obtain ⟨r0, hr0⟩ : ∃ r0, rs[m]? = some r0 := ⟨_, List.getElem?_eq_getElem (by omega)⟩
      have d0 := (unhide HR).cell hr0
      have f0 := fz m
      have V1 := Bg.val_word (unhide OK) hx
      by_cases hl2 : m + 1 < us.length
      · have hl2' : (m : Int) + 1 < (us.length : Int) := by omega
        obtain ⟨y, hy⟩ : ∃ y, us[m + 1]? = some y := ⟨_, List.getElem?_eq_getElem hl2⟩
        obtain ⟨b2, o2, e2, lb2, c2⟩ := unhide CA (m + 1) y hy
        cases e2
        have hyb : y < 4294967296 := unhide OA (m + 1) y hy
        have d2 := ((unhide HB).cell (p := ⟨b1, o1 + (m + 1), none⟩) lb2).trans c2
        have HD : Hid (Bg.val us / 2 ^ s / 4294967296 ^ m % 4294967296 = (x + 4294967296 * y) / 2 ^ s % 4294967296) := hide (Bg.right_dig hs (by rw [V1, Bg.val_word (unhide OK) hy]))
        have HOR := hide (or_shift hxb hyb)
        clear hx hy hr0 c1 c2 fz V1
        go_wp2
        rw [unhide HOR]
        obtain ⟨V, hV⟩ : ∃ V, V = x + 4294967296 * y := ⟨_, rfl⟩
        rw [← hV] at HD ⊢
        have hcv : (V : Int) / 2 ^ s % 4294967296 = ((V / 2 ^ s % 4294967296 : Nat) : Int) := by simp
        rw [hcv]
        go_roundw
        case rel => exact ⟨m + 1, rs.set m (V / 2 ^ s % 4294967296), by omega, by go_num, by simpa using hrl, hide ((unhide HO).set _ (Nat.mod_lt _ (by omega))), hide (Bg.zero_set (unhide HZ)), hide (by
            rw [Bg.val_set0 (unhide HZ) (by omega), Nat.pow_succ, Bg.mod_step, unhide HE, unhide HD]), hide ((unhide HR).set m _), hide (below_set (unhide HB) (Nat.le_refl _))⟩
        case measure => simp [intOf]; omega
      · have hl2' : ¬ (m : Int) + 1 < (us.length : Int) := by omega
        have HD : Hid (Bg.val us / 2 ^ s / 4294967296 ^ m % 4294967296 = (x + 4294967296 * 0) / 2 ^ s % 4294967296) := hide (Bg.right_dig (K := 0) hs (by rw [V1, Bg.val_none (unhide OK) (by omega)]))
        clear hx hr0 c1 fz V1
        rw [Nat.mul_zero, Nat.add_zero] at HD
        go_wp2
        have hcv : (x : Int) / 2 ^ s % 4294967296 = ((x / 2 ^ s % 4294967296 : Nat) : Int) := by simp
        rw [hcv]
        go_roundw
        case rel => exact ⟨m + 1, rs.set m (x / 2 ^ s % 4294967296), by omega, by go_num, by simpa using hrl, hide ((unhide HO).set _ (Nat.mod_lt _ (by omega))), hide (Bg.zero_set (unhide HZ)), hide (by
            rw [Bg.val_set0 (unhide HZ) (by omega), Nat.pow_succ, Bg.mod_step, unhide HE, unhide HD]), hide ((unhide HR).set m _), hide (below_set (unhide HB) (Nat.le_refl _))⟩
        case measure => simp [intOf]; omega
    · obtain rfl : m = us.length := by omega
      have T : Hid (∀ wx, RW wx w.heap.size rs → Calls Tryd.prog 86 #[.slice (some ⟨w.heap.size, 0, none⟩) us.length us.length] wx fun e w' => ∃ u, e = .returned u ∧ WS w' u (Bg.wd (Bg.val us / 2 ^ s)) ∧ Below wx.heap.size wx w') := hide fun wx h => by
        have e := unhide HE
        rw [Nat.mod_eq_of_lt (Nat.lt_of_le_of_lt (Nat.div_le_self _ _) (Bg.val_lt (unhide OK)))] at e
        have t := trim_any (.slice (some ⟨w.heap.size, 0, none⟩) us.length us.length) rs wx (by
          have := WS.whole h (unhide HO) (cap := us.length) (by simp [hrl]) (by omega)
          simpa [hrl] using this)
        rwa [e] at t
      clear fz
      go_wp2_with fail
      refine (unhide T _ (unhide HR)).mono ?_
      rintro e w1 ⟨u, rfl, hu, hb⟩
      have HU := hide hu
      have HB1 := hide hb
      clear hu hb
      go_wp2
      go_ret
      exact ⟨_, rfl, unhide HU, below_via (unhide HB) (unhide HB1)⟩

set_option maxHeartbeats 1000000 in
theorem right_no (p : Option Addr) (cap s : Nat) (w : World) (hs : s < 32) :
    Calls Tryd.prog 93 #[.slice p 0 cap, .int .u64 (s : Int)] w fun e w' => e = .returned (.slice none 0 0) ∧ w' = w := by
  have q1 : ((s : Int)).tdiv 32 = 0 := by rw [Int.tdiv_eq_ediv_of_nonneg (by omega)]; omega
  have q2 : ((s : Int)).tmod 32 = (s : Int) := by rw [Int.tmod_eq_emod_of_nonneg (by omega)]; omega
  go_enter Tryd.func93, Tryd.ntmps93
  go_wp2
  go_ret
  exact ⟨rfl, rfl⟩

theorem right_any (u : Value) (a s : Nat) (w : World) (hu : WS w u (Bg.wd a)) (ha : (Bg.wd a).length ≤ 100000) (hs : s < 32) :
    Calls Tryd.prog 93 #[u, .int .u64 (s : Int)] w fun e w' => ∃ u, e = .returned u ∧ WS w' u (Bg.wd (a / 2 ^ s)) ∧ Below w.heap.size w w' := by
  obtain ⟨p, cap, rfl, _⟩ := id hu
  by_cases h0 : a = 0
  · subst h0
    rw [Bg.wd_zero, Nat.zero_div]
    refine (right_no p cap s w hs).mono ?_
    rintro e w' ⟨rfl, rfl⟩
    exact ⟨_, rfl, by rw [Bg.wd_zero]; exact WS.nil _, Below.refl _ _⟩
  · have := right_go p cap s _ w hu (by rw [Bg.wd_pos h0]; simp) (by omega) hs
    rwa [Bg.val_wd] at this
end Go.Proofs.YtbdgngfpofohpaaDoor

/- Walks: div, the easy cases. -/
namespace Go.Proofs.YtbdgngfpofohpaaDoor
open Go.RowKit

theorem wd_pos_len {n : Nat} (h : n ≠ 0) : 1 ≤ (Bg.wd n).length := by rw [Bg.wd_pos h]; simp
theorem wd_len2 {n : Nat} (h : (Bg.wd n).length ≤ 2) : n < 18446744073709551616 := by
  have := Bg.wd_lt n
  have h2 : 4294967296 ^ (Bg.wd n).length ≤ 4294967296 ^ 2 := Nat.pow_le_pow_right (by omega) h
  omega
theorem wd_len1 {n : Nat} (h : (Bg.wd n).length = 1) : n < 4294967296 := by
  have := Bg.wd_lt n
  rw [h] at this
  omega

set_option maxRecDepth 100000 in
set_option maxHeartbeats 1000000 in
theorem div_easy (u v : Value) (a b : Nat) (w : World) (hu : WS w u (Bg.wd a)) (hv : WS w v (Bg.wd b)) (ha : (Bg.wd a).length ≤ 100000) (hb : (Bg.wd b).length ≤ 100000) (b0 : b ≠ 0) (hc : a < b ∨ (Bg.wd a).length ≤ 2 ∨ (Bg.wd b).length = 1) :
    Calls Tryd.prog 84 #[u, v] w fun e w' => ∃ p q, e = .returned (.tuple #[p, q]) ∧ WS w' p (Bg.wd (a / b)) ∧ WS w' q (Bg.wd (a % b)) ∧ Below w.heap.size w w' := by
  obtain ⟨p, cap, rfl, _⟩ := id hu
  obtain ⟨q, cap2, rfl, _⟩ := id hv
  have CM := hide (cmp_any _ _ a b w hu hv)
  have HU := hide hu
  have HV := hide hv
  have hlb := wd_pos_len b0
  have g1 : (((Bg.wd b).length : Int) == 0) = false := by rw [beq_eq_false_iff_ne]; omega
  obtain ⟨la, hla⟩ : ∃ la, la = (Bg.wd a).length := ⟨_, rfl⟩
  obtain ⟨lb, hlb2⟩ : ∃ lb, lb = (Bg.wd b).length := ⟨_, rfl⟩
  have HLA := hide hla
  have HLB := hide hlb2
  rw [← hla] at ha hc CM ⊢
  rw [← hlb2] at hb hc hlb g1 CM ⊢
  clear hu hv hla hlb2
  go_enter Tryd.func84, Tryd.ntmps84
  go_wp2_with fail
  refine (unhide CM).mono ?_
  rintro e w1 ⟨rfl, hb1⟩
  have HB1 := hide hb1
  clear hb1 CM
  by_cases hab : a < b
  · rw [Bg.cmpN_lt hab]
    have TW := hide (twin_any _ a w1 ((unhide HU).below (unhide HB1)) (by rw [← unhide HLA]; exact ha))
    rw [← unhide HLA] at TW
    go_wp2_with fail
    refine (unhide TW).mono ?_
    rintro e w2 ⟨u2, rfl, hu2, hb2⟩
    have HU2 := hide hu2
    have HB2 := hide hb2
    clear hu2 hb2
    go_wp2
    refine bodyPost_ret (v := .tuple #[.slice none 0 0, u2]) (by simp [results, Tryd.results84, go_sem]) rfl ?_
    exact ⟨_, _, rfl, by rw [Nat.div_eq_of_lt hab, Bg.wd_zero]; exact WS.nil _, by rw [Nat.mod_eq_of_lt hab]; exact unhide HU2, below_via (unhide HB1) (unhide HB2)⟩
  · have hcm : ¬ Bg.cmpN a b < 0 := by
      rcases Nat.eq_or_lt_of_le (Nat.le_of_not_lt hab) with e | e
      · rw [Bg.cmpN_eq e.symm]; omega
      · rw [Bg.cmpN_gt e]; omega
    generalize Bg.cmpN a b = cm at *
    by_cases hl2 : la ≤ 2
    · have hl2' : (la : Int) ≤ 2 := by omega
      have hab2 : b ≤ a := by omega
      have A64 : a < 18446744073709551616 := wd_len2 (by rw [← unhide HLA]; exact hl2)
      have PA : Hid (∀ wx, Below w1.heap.size w1 wx → Calls Tryd.prog 89 #[.slice p la cap] wx fun e w' => e = .returned (.int .u64 (a : Int)) ∧ w' = wx) := hide fun wx hx => by
        have := plain_any _ a A64 wx (((unhide HU).below (unhide HB1)).below hx)
        rwa [← unhide HLA] at this
      have PB : Hid (∀ wx, Below w1.heap.size w1 wx → Calls Tryd.prog 89 #[.slice q lb cap2] wx fun e w' => e = .returned (.int .u64 (b : Int)) ∧ w' = wx) := hide fun wx hx => by
        have := plain_any _ b (by omega) wx (((unhide HV).below (unhide HB1)).below hx)
        rwa [← unhide HLB] at this
      have b0' : ((b : Int) == 0) = false := by rw [beq_eq_false_iff_ne]; omega
      have hq64 : a / b < 18446744073709551616 := Nat.lt_of_le_of_lt (Nat.div_le_self _ _) A64
      have hr64 : a % b < 18446744073709551616 := Nat.lt_of_le_of_lt (Nat.mod_le _ _) A64
      have W := hide (fun (wx : World) (x : Nat) (hx : x < 18446744073709551616) => words_any x hx wx)
      obtain ⟨Q, hQ⟩ : ∃ Q, Q = a / b := ⟨_, rfl⟩
      obtain ⟨R, hR⟩ : ∃ R, R = a % b := ⟨_, rfl⟩
      have t1 : ((a : Nat) : Int).tdiv (b : Int) = (Q : Int) := by rw [hQ]; rfl
      have t2 : ((a : Nat) : Int).tmod (b : Int) = (R : Int) := by rw [hR]; rfl
      rw [← hQ] at hq64
      rw [← hR] at hr64
      have wq : IntKind.u64.wrap (Q : Int) = (Q : Int) := by rw [IntKind.wrap_u64]; omega
      have wr : IntKind.u64.wrap (R : Int) = (R : Int) := by rw [IntKind.wrap_u64]; omega
      have HQ := hide hQ
      have HRR := hide hR
      clear hQ hR
      go_wp2_with fail
      refine (unhide PA _ (Below.refl _ _)).mono ?_
      rintro e w2 ⟨rfl, hw2⟩
      subst w2
      go_wp2_with fail
      refine (unhide PB _ (Below.refl _ _)).mono ?_
      rintro e w2 ⟨rfl, hw2⟩
      subst w2
      go_wp2_with fail
      go_region_with (
        go_at_call 85
        refine (unhide W _ _ (by assumption)).mono ?_
        rintro e wz ⟨vz, rfl, hvz, hbz⟩
        first
          | (have hvB := hvz
             replace hvA := hvA.below (below_via (by repeat (first | exact Below.refl _ _ | apply Below.drew)) hbz)
             clear hvz)
          | (have hvA := hvz
             clear hvz)
        replace hbz : Below w1.heap.size w1 wz := below_via (by repeat (first | assumption | exact Below.refl _ _ | apply Below.drew)) hbz)
      all_goals
        have HVA := hide hvA
        have HVB := hide hvB
        have HBZ := hide hbz
        clear hvA hvB hbz
        go_wp2
        refine bodyPost_ret (v := .tuple #[_, _]) (by simp [results, Tryd.results84, go_sem]; exact ⟨rfl, rfl⟩) rfl ?_
        rw [← unhide HQ, ← unhide HRR]
        exact ⟨_, _, rfl, (by first | exact (unhide HVA).below (by repeat (first | exact Below.refl _ _ | apply Below.drew)) | exact (unhide HVB).below (by repeat (first | exact Below.refl _ _ | apply Below.drew))), (by first | exact (unhide HVB).below (by repeat (first | exact Below.refl _ _ | apply Below.drew)) | exact (unhide HVA).below (by repeat (first | exact Below.refl _ _ | apply Below.drew))), below_via (unhide HB1) (by repeat (first | exact unhide HBZ | apply Below.drew))⟩
    · have hl2' : ¬ (la : Int) ≤ 2 := by omega
      obtain rfl : lb = 1 := by omega
      have B32 : b < 4294967296 := wd_len1 (unhide HLB).symm
      obtain ⟨b1, o1, e1, lb1, c1⟩ := WS.at ((unhide HV).below (unhide HB1)) 0 b (by rw [Bg.wd_one B32 b0]; rfl)
      cases e1
      have SM := hide (small_any _ a b w1 ((unhide HU).below (unhide HB1)) (by rw [← unhide HLA]; exact ha) (by omega) B32)
      rw [← unhide HLA] at SM
      have c2 : w1.cell? ⟨b1, o1, none⟩ = some (.int .u32 (b : Int)) := c1
      clear c1
      have hr32 : a % b < 4294967296 := Nat.lt_trans (Nat.mod_lt _ (by omega)) B32
      have TR : Hid (∀ wx, Calls Tryd.prog 86 #[.slice (some ⟨wx.heap.size, 0, none⟩) 1 1] (wx.alloc (.cells #[.int .u32 ((a % b : Nat) : Int)] 117)) fun e w' => ∃ u, e = .returned u ∧ WS w' u (Bg.wd (a % b)) ∧ Below wx.heap.size wx w') := hide fun wx => by
        have h := trim_any (.slice (some ⟨wx.heap.size, 0, none⟩) 1 1) [a % b] _ (WS.whole (RW.new wx [a % b]) (by intro y hy; simp at hy; omega) (Nat.le_refl _) (by simp))
        rw [show Bg.val [a % b] = a % b by simp [Bg.val]] at h
        refine Calls.mono h ?_
        rintro e w' ⟨u, rfl, hu, hb⟩
        exact ⟨u, rfl, hu, below_via (below_new _ _) hb⟩
      obtain ⟨R, hR⟩ : ∃ R, R = a % b := ⟨_, rfl⟩
      rw [← hR] at TR SM hr32
      have HRR := hide hR
      clear hR
      go_wp2_with fail
      refine (unhide SM).mono ?_
      rintro e w2 ⟨u2, rfl, hu2, hb2⟩
      have HU2 := hide hu2
      have HB2 := hide hb2
      clear hu2 hb2 c2
      go_wp2_with fail
      refine (unhide TR _).mono ?_
      rintro e w3 ⟨u3, rfl, hu3, hb3⟩
      have HU3 := hide hu3
      have HB3 := hide hb3
      clear hu3 hb3
      go_wp2
      refine bodyPost_ret (v := .tuple #[u2, u3]) (by simp [results, Tryd.results84, go_sem]) rfl ?_
      rw [← unhide HRR]
      exact ⟨_, _, rfl, (unhide HU2).below (unhide HB3), unhide HU3, below_via (unhide HB1) (below_via (unhide HB2) (unhide HB3))⟩
end Go.Proofs.YtbdgngfpofohpaaDoor
