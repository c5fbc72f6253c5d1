/- Walks: sub. -/
import Derived.Test.YtibkemolmpcdcaaGreatDoorG03
import Derived.Lib.AppendZeros
import Derived.Test.YtibkemolmpcdcaaGreatDoorG02
namespace Go.Proofs.YtibkemolmpcdcaaGreatDoor
open Go.RowKit

set_option maxHeartbeats 1000000 in
theorem sub_ge (p q : Option Addr) (cap cap2 : Nat) (us vs : List Nat) (w : World) (hu : WS w (.slice p us.length cap) us) (hv : WS w (.slice q vs.length cap2) vs) (hge : vs.length ≤ us.length) (hl : us.length ≤ 1000000) (hle : Bg.val vs ≤ Bg.val us) :
    Calls Tryz.prog 88 #[.slice p us.length cap, .slice q vs.length cap2] w fun e w' => ∃ u, e = .returned u ∧ WS w' u (Bg.wd (Bg.val us - Bg.val vs)) ∧ Below w.heap.size w w' := by
  have CA := hide (WS.at hu)
  have CB := hide (WS.at hv)
  have OA := hide (fun i x h => hu.cells.2.2.2.1.at (i := i) (x := x) h)
  have OB := hide (fun i x h => hv.cells.2.2.2.1.at (i := i) (x := x) h)
  clear hu hv
  have hmk := mkw w us.length (us.length : Int) rfl (by omega)
  go_enter Tryz.func88, Tryz.ntmps88
  go_wp2_with fail
  go_loopw [6, 7] (fun cv i wr => ∃ (m c : Nat) (rs : List Nat), m ≤ us.length ∧ i = .int .i64 (m : Int) ∧ cv = .int .u64 (c : Int) ∧ c ≤ 1 ∧ rs.length = us.length ∧ Hid (Bg.Ok rs) ∧ Hid (∀ j x, m ≤ j → rs[j]? = some x → x = 0) ∧ Hid (Bg.val (us.take m) + c * 4294967296 ^ m = Bg.val rs + Bg.val (vs.take m)) ∧ Hid (RW wr w.heap.size rs) ∧ Hid (Below w.heap.size w wr)) (fun _ i _ => us.length - (intOf i).toNat)
  case atStart => exact ⟨0, 0, List.replicate us.length 0, Nat.zero_le _, rfl, rfl, by omega, by simp, hide (Bg.Ok.zeros _), hide (Bg.zero_rep _), hide (by rw [Bg.val_zeros]; simp [Bg.val]), hide (RW.made _ _), hide (below_new _ _)⟩
  case round =>
    obtain ⟨m, c, rs, hml, rfl, rfl, hc1, hrl, HO, HZ, HE, HR, HB⟩ := hrel
    clear hmk
    have fz := (unhide HR).frozen
    by_cases hlt : m < us.length
    · have hlt' : (m : Int) < (us.length : Int) := by omega
      obtain ⟨x, hx⟩ : ∃ x, us[m]? = some x := ⟨_, List.getElem?_eq_getElem hlt⟩
      obtain ⟨b1, o1, rfl, l1, c1⟩ := unhide CA m x hx
      have d1 : wr.cell? ⟨b1, o1 + m, none⟩ = some (.int .u32 (x : Int)) := ((unhide HB).cell (p := ⟨b1, o1 + m, none⟩) l1).trans c1
      have hxb : x < 4294967296 := unhide OA m x hx
      obtain ⟨r0, hr0⟩ : ∃ r0, rs[m]? = some r0 := ⟨_, List.getElem?_eq_getElem (by omega)⟩
      have d0 := (unhide HR).cell hr0
      have f0 := fz m
      have HX := hide hx
      clear hx c1 hr0 fz
      have hw1 : IntKind.u64.wrap ((x : Int) - (c : Int)) = (((x + 18446744073709551616 - c) % 18446744073709551616 : Nat) : Int) := by rw [IntKind.wrap_u64]; omega
      obtain ⟨e1, he1⟩ : ∃ e1, e1 = (x + 18446744073709551616 - c) % 18446744073709551616 := ⟨_, rfl⟩
      rw [← he1] at hw1
      have hb1 : e1 < 18446744073709551616 := by omega
      by_cases hlv : m < vs.length
      · have hlv' : (m : Int) < (vs.length : Int) := by omega
        obtain ⟨y, hy⟩ : ∃ y, vs[m]? = some y := ⟨_, List.getElem?_eq_getElem hlv⟩
        obtain ⟨b2, o2, rfl, l2, c2⟩ := unhide CB m y hy
        have d2 : wr.cell? ⟨b2, o2 + m, none⟩ = some (.int .u32 (y : Int)) := ((unhide HB).cell (p := ⟨b2, o2 + m, none⟩) l2).trans c2
        have hyb : y < 4294967296 := unhide OB m y hy
        have HY := hide hy
        have hw2 : IntKind.u64.wrap ((e1 : Int) - (y : Int)) = (((e1 + 18446744073709551616 - y) % 18446744073709551616 : Nat) : Int) := by rw [IntKind.wrap_u64]; omega
        obtain ⟨e2, he2⟩ : ∃ e2, e2 = (e1 + 18446744073709551616 - y) % 18446744073709551616 := ⟨_, rfl⟩
        rw [← he2] at hw2
        have hb2 : e2 < 18446744073709551616 := by omega
        have HQ := hide (Bg.borrow hxb hc1 hyb he1 he2)
        clear hy c2 he1 he2
        go_wp2
        go_roundw
        case rel => exact ⟨m + 1, e2 / 9223372036854775808, rs.set m (e2 % 4294967296), by omega, by go_num, by go_num, (unhide HQ).2, by simpa using hrl, hide ((unhide HO).set _ (by omega)), hide (Bg.zero_set (unhide HZ)), hide (by
            rw [Bg.val_set0 (unhide HZ) (by omega), Bg.take_one, Bg.take_one, unhide HX, unhide HY, Nat.pow_succ]
            exact Bg.sub_step (unhide HE) (unhide HQ).1), hide (by
            have := (unhide HR).set m (e2 % 4294967296)
            simpa using this), hide (below_set (unhide HB) (Nat.le_refl _))⟩
        case measure => simp [intOf]; omega
      · have hlv' : ¬ (m : Int) < (vs.length : Int) := by omega
        have HY : Hid (vs[m]? = none) := hide (List.getElem?_eq_none (by omega))
        have HQ := hide (Bg.borrow (y := 0) (e2 := e1) hxb hc1 (by omega) he1 (by omega))
        clear he1
        go_wp2
        go_roundw
        case rel => exact ⟨m + 1, e1 / 9223372036854775808, rs.set m (e1 % 4294967296), by omega, by go_num, by go_num, (unhide HQ).2, by simpa using hrl, hide ((unhide HO).set _ (by omega)), hide (Bg.zero_set (unhide HZ)), hide (by
            rw [Bg.val_set0 (unhide HZ) (by omega), Bg.take_one, Bg.take_one, unhide HX, unhide HY, Nat.pow_succ]
            exact Bg.sub_step (y := 0) (unhide HE) (unhide HQ).1), hide (by
            have := (unhide HR).set m (e1 % 4294967296)
            simpa using this), hide (below_set (unhide HB) (Nat.le_refl _))⟩
        case measure => simp [intOf]; omega
    · obtain rfl : m = us.length := by omega
      have T : Hid (∀ wx, RW wx w.heap.size rs → Calls Tryz.prog 85 #[.slice (some ⟨w.heap.size, 0, none⟩) us.length us.length] wx fun e w' => ∃ u, e = .returned u ∧ WS w' u (Bg.wd (Bg.val us - Bg.val vs)) ∧ Below wx.heap.size wx w') := hide fun wx h => by
        have e : Bg.val rs = Bg.val us - Bg.val vs := by
          have h := unhide HE
          rw [List.take_length, List.take_of_length_le hge] at h
          have hlt := Bg.val_lt (unhide HO)
          rw [hrl] at hlt
          rcases Nat.eq_or_lt_of_le hc1 with q | q
          · subst q
            omega
          · obtain rfl : c = 0 := by omega
            omega
        have t := trim_any (.slice (some ⟨w.heap.size, 0, none⟩) us.length us.length) rs wx (by
          have := WS.whole h (unhide HO) (cap := us.length) (by simp [hrl]) (by omega)
          simpa [hrl] using this)
        rwa [e] at t
      clear fz
      go_wp2_with fail
      refine (unhide T _ (unhide HR)).mono ?_
      rintro e w1 ⟨u, rfl, hu, hb⟩
      have HU := hide hu
      have HB1 := hide hb
      clear hu hb
      go_wp2
      go_ret
      exact ⟨_, rfl, unhide HU, below_via (unhide HB) (unhide HB1)⟩

theorem sub_any (u v : Value) (a b : Nat) (w : World) (hu : WS w u (Bg.wd a)) (hv : WS w v (Bg.wd b)) (ha : (Bg.wd a).length ≤ 100000) (h : b ≤ a) :
    Calls Tryz.prog 88 #[u, v] w fun e w' => ∃ u, e = .returned u ∧ WS w' u (Bg.wd (a - b)) ∧ Below w.heap.size w w' := by
  obtain ⟨p, cap, rfl, _⟩ := id hu
  obtain ⟨q, cap2, rfl, _⟩ := id hv
  have := sub_ge p q cap cap2 _ _ w hu hv (Bg.wd_mono h) (by omega) (by rw [Bg.val_wd, Bg.val_wd]; exact h)
  rwa [Bg.val_wd, Bg.val_wd] at this
end Go.Proofs.YtibkemolmpcdcaaGreatDoor

/- Walks: mul. -/
namespace Go.Proofs.YtibkemolmpcdcaaGreatDoor
open Go.RowKit

set_option maxHeartbeats 2000000 in
theorem mul_go (p q : Option Addr) (cap cap2 : Nat) (us vs : List Nat) (w : World) (hu : WS w (.slice p us.length cap) us) (hv : WS w (.slice q vs.length cap2) vs) (h1 : 1 ≤ us.length) (h2 : 1 ≤ vs.length) (l1 : us.length ≤ 1000000) (l2 : vs.length ≤ 1000000) :
    Calls Tryz.prog 58 #[.slice p us.length cap, .slice q vs.length cap2] w fun e w' => ∃ u, e = .returned u ∧ WS w' u (Bg.wd (Bg.val us * Bg.val vs)) ∧ Below w.heap.size w w' := by
  have CA := hide (WS.at hu)
  have CB := hide (WS.at hv)
  have OA := hide (fun i x h => hu.cells.2.2.2.1.at (i := i) (x := x) h)
  have OB := hide (fun i x h => hv.cells.2.2.2.1.at (i := i) (x := x) h)
  clear hu hv
  have g1 : ((us.length : Int) == 0) = false := by rw [beq_eq_false_iff_ne]; omega
  have g2 : ((vs.length : Int) == 0) = false := by rw [beq_eq_false_iff_ne]; omega
  have hmk := mkw w (us.length + vs.length) ((us.length : Int) + (vs.length : Int)) (by omega) (by omega)
  go_enter Tryz.func58, Tryz.ntmps58
  go_wp2_with fail
  go_loopw [6] (fun i wr => ∃ (m : Nat) (rs : List Nat), m ≤ us.length ∧ i = .int .i64 (m : Int) ∧ rs.length = us.length + vs.length ∧ Hid (Bg.Ok rs) ∧ Hid (∀ j x, m + vs.length ≤ j → rs[j]? = some x → x = 0) ∧ Hid (Bg.val rs = Bg.val (us.take m) * Bg.val vs) ∧ Hid (RW wr w.heap.size rs) ∧ Hid (Below w.heap.size w wr)) (fun i _ => us.length - (intOf i).toNat)
  case atStart => exact ⟨0, List.replicate (us.length + vs.length) 0, Nat.zero_le _, rfl, by simp, hide (Bg.Ok.zeros _), hide (fun j x _ => Bg.zero_rep _ j x (Nat.zero_le _)), hide (by rw [Bg.val_zeros]; simp [Bg.val]), hide (RW.made _ _), hide (below_new _ _)⟩
  case round =>
    obtain ⟨m, rs, hml, rfl, hrl, HO, HZ, HE, HR, HB⟩ := hrel
    clear hmk
    by_cases hlt : m < us.length
    · have hlt' : (m : Int) < (us.length : Int) := by omega
      obtain ⟨x, hx⟩ : ∃ x, us[m]? = some x := ⟨_, List.getElem?_eq_getElem hlt⟩
      obtain ⟨b1, o1, rfl, lb1, c1⟩ := unhide CA m x hx
      have hxb : x < 4294967296 := unhide OA m x hx
      have HX := hide hx
      have HC1 := hide c1
      clear hx c1
      go_wp2_with fail
      go_loopw [7, 8] (fun cv j wi => ∃ (k c : Nat) (ts : List Nat), k ≤ vs.length ∧ j = .int .i64 (k : Int) ∧ cv = .int .u64 (c : Int) ∧ c < 4294967296 ∧ ts.length = us.length + vs.length ∧ Hid (Bg.Ok ts) ∧ Hid (∀ j x, m + vs.length ≤ j → ts[j]? = some x → x = 0) ∧ Hid (Bg.val ts + c * (4294967296 ^ m * 4294967296 ^ k) = Bg.val rs + x * 4294967296 ^ m * Bg.val (vs.take k)) ∧ Hid (RW wi w.heap.size ts) ∧ Hid (Below w.heap.size w wi)) (fun _ j _ => vs.length - (intOf j).toNat)
      case atStart => exact ⟨0, 0, rs, Nat.zero_le _, rfl, rfl, by omega, hrl, HO, HZ, hide (by simp [Bg.val]), HR, HB⟩
      case round =>
        clear HR HB HO HZ
        obtain ⟨k, c, ts, hkl, rfl, rfl, hcb, htl, HO, HZ, HE2, HR, HB⟩ := hrel
        have fz := (unhide HR).frozen
        by_cases hlk : k < vs.length
        · have hlk' : (k : Int) < (vs.length : Int) := by omega
          obtain ⟨y, hy⟩ : ∃ y, vs[k]? = some y := ⟨_, List.getElem?_eq_getElem hlk⟩
          obtain ⟨b2, o2, rfl, lb2, c2⟩ := unhide CB k y hy
          have hyb : y < 4294967296 := unhide OB k y hy
          have d1 := ((unhide HB).cell (p := ⟨b1, o1 + m, none⟩) lb1).trans (unhide HC1)
          have d2 := ((unhide HB).cell (p := ⟨b2, o2 + k, none⟩) lb2).trans c2
          obtain ⟨r, hr⟩ : ∃ r, ts[m + k]? = some r := ⟨_, List.getElem?_eq_getElem (by omega)⟩
          have d0 := (unhide HR).cell hr
          have f0 := fz (m + k)
          have hrb : r < 4294967296 := (unhide HO).at hr
          obtain ⟨t1, t2, t3⟩ := Bg.mul_lt hxb hyb hcb hrb
          obtain ⟨P, hP⟩ : ∃ P, P = x * y := ⟨_, rfl⟩
          have hp : (x : Int) * (y : Int) = (P : Int) := by rw [hP, Int.natCast_mul]
          have HP := hide hP
          rw [← hP] at t1 t2 t3
          have hmk2 : (m : Int) + (k : Int) < (us.length : Int) + (vs.length : Int) := by omega
          have HRR := hide hr
          have HY := hide hy
          clear hr hy c2 hP fz
          go_wp2_with fail
          go_region
          all_goals
            go_wp2
            go_roundw
            case rel => exact ⟨k + 1, (c + (P + r)) / 4294967296, ts.set (m + k) ((c + (P + r)) % 4294967296), by omega, by go_num, by go_num, by omega, by simpa using htl, hide ((unhide HO).set _ (by omega)), hide (fun j z hj hz => by
                rw [List.getElem?_set_ne (by omega)] at hz
                exact unhide HZ j z hj hz), hide (by
                have hs := Bg.val_set ts (m + k) r ((c + (P + r)) % 4294967296) (unhide HRR)
                have hE := unhide HE2
                rw [← Nat.pow_add] at hE
                have := Bg.mul_step hs hE rfl
                rw [Bg.val_succ vs k y (unhide HY), Bg.mul_row, ← unhide HP, ← Nat.pow_add, ← Nat.pow_add, ← Nat.add_assoc m k 1, Nat.pow_succ]
                rw [Nat.add_assoc (Bg.val rs)] at this
                exact this), hide (by
                repeat apply RW.drew
                have := (unhide HR).set (m + k) ((c + (P + r)) % 4294967296)
                simpa using this), hide (by
                repeat apply Below.drew
                exact below_set (by repeat (first | exact unhide HB | apply Below.drew)) (Nat.le_refl _))⟩
            case measure => simp [intOf]; omega
        · obtain rfl : k = vs.length := by omega
          obtain ⟨r, hr⟩ : ∃ r, ts[m + vs.length]? = some r := ⟨_, List.getElem?_eq_getElem (by omega)⟩
          have d0 := (unhide HR).cell hr
          have f0 := fz (m + vs.length)
          have hmk2 : (m : Int) + (vs.length : Int) < (us.length : Int) + (vs.length : Int) := by omega
          clear hr fz
          go_wp2
          go_roundw
          case rel => exact ⟨m + 1, ts.set (m + vs.length) c, by omega, by go_num, by simpa using htl, hide ((unhide HO).set _ hcb), hide (fun j z hj hz => by
              rw [List.getElem?_set_ne (by omega)] at hz
              exact unhide HZ j z (by omega) hz), hide (by
              have h := unhide HE2
              rw [List.take_length, unhide HE] at h
              rw [Bg.val_set0 (unhide HZ) (by omega), Bg.val_succ us m x (unhide HX), Nat.pow_add, Nat.mul_comm (4294967296 ^ m * 4294967296 ^ vs.length) c, h, Nat.add_mul, Nat.mul_comm x]), hide (by
              have := (unhide HR).set (m + vs.length) c
              simpa using this), hide (below_set (unhide HB) (Nat.le_refl _))⟩
          case measure => simp [intOf]; omega
    · obtain rfl : m = us.length := by omega
      have T : Hid (∀ wx, RW wx w.heap.size rs → Calls Tryz.prog 85 #[.slice (some ⟨w.heap.size, 0, none⟩) (us.length + vs.length) (us.length + vs.length)] wx fun e w' => ∃ u, e = .returned u ∧ WS w' u (Bg.wd (Bg.val us * Bg.val vs)) ∧ Below wx.heap.size wx w') := hide fun wx h => by
        have e := unhide HE
        rw [List.take_length] at e
        have t := trim_any (.slice (some ⟨w.heap.size, 0, none⟩) (us.length + vs.length) (us.length + vs.length)) rs wx (by
          have := WS.whole h (unhide HO) (cap := us.length + vs.length) (by simp [hrl]) (by omega)
          simpa [hrl] using this)
        rwa [e] at t
      go_wp2_with fail
      refine (unhide T _ (unhide HR)).mono ?_
      rintro e w1 ⟨u, rfl, hu, hb⟩
      have HU := hide hu
      have HB1 := hide hb
      clear hu hb
      go_wp2
      go_ret
      exact ⟨_, rfl, unhide HU, below_via (unhide HB) (unhide HB1)⟩

set_option maxHeartbeats 1000000 in
theorem mul_no (p q : Option Addr) (cap cap2 n k : Nat) (w : World) (h : n = 0 ∨ k = 0) :
    Calls Tryz.prog 58 #[.slice p n cap, .slice q k cap2] w fun e w' => e = .returned (.slice none 0 0) ∧ w' = w := by
  go_enter Tryz.func58, Tryz.ntmps58
  by_cases h0 : n = 0
  · subst h0
    go_wp2
    go_ret
    exact ⟨rfl, rfl⟩
  · obtain rfl : k = 0 := by omega
    have g1 : ((n : Int) == 0) = false := by rw [beq_eq_false_iff_ne]; omega
    go_wp2
    go_ret
    exact ⟨rfl, rfl⟩

theorem mul_any (u v : Value) (a b : Nat) (w : World) (hu : WS w u (Bg.wd a)) (hv : WS w v (Bg.wd b)) (ha : (Bg.wd a).length ≤ 100000) (hb : (Bg.wd b).length ≤ 100000) :
    Calls Tryz.prog 58 #[u, v] w fun e w' => ∃ u, e = .returned u ∧ WS w' u (Bg.wd (a * b)) ∧ Below w.heap.size w w' := by
  obtain ⟨p, cap, rfl, _⟩ := id hu
  obtain ⟨q, cap2, rfl, _⟩ := id hv
  by_cases h0 : a = 0 ∨ b = 0
  · have e : a * b = 0 := by rcases h0 with h0 | h0 <;> simp [h0]
    refine (mul_no p q cap cap2 _ _ w (by rcases h0 with h0 | h0 <;> simp [h0, Bg.wd_zero])).mono ?_
    rintro e' w' ⟨rfl, rfl⟩
    rw [e, Bg.wd_zero]
    exact ⟨_, rfl, WS.nil _, Below.refl _ _⟩
  · have l : ∀ n, n ≠ 0 → 1 ≤ (Bg.wd n).length := fun n hn => by rw [Bg.wd_pos hn]; simp
    have := mul_go p q cap cap2 _ _ w hu hv (l a (by omega)) (l b (by omega)) (by omega) (by omega)
    rwa [Bg.val_wd, Bg.val_wd] at this
end Go.Proofs.YtibkemolmpcdcaaGreatDoor

/- Walks: twin. -/
namespace Go.Proofs.YtibkemolmpcdcaaGreatDoor
open Go.RowKit

theorem zero_words (k : Nat) : Builtin.zeroCells (Value.int IntKind.u32 0).cells k = ((List.replicate k 0).map ic).toArray := by
  apply Array.ext
  · simp [Builtin.zeroCells, Value.cells]
  · intro i h1 h2
    simp [Builtin.zeroCells, Value.cells, ic, Nat.mod_one]
theorem run_twin (p : Option Addr) (cap : Nat) (us : List Nat) (w : World) (hu : WS w (.slice p us.length cap) us) (h1 : us ≠ []) (l1 : us.length ≤ 1000000) :
    ∃ u w', (Builtin.append_ #[41, 41] 41 #[.slice none 0 0, .slice p us.length cap]).run Tryz.prog w = .ok u w' ∧ WS w' u us ∧ Below w.heap.size w w' := by
  obtain ⟨i, hi, z0, z1, z2⟩ := info_u32
  obtain ⟨p', cap', e, hc, hm, ok, hk⟩ := hu
  cases e
  rcases hk with hk | ⟨b, off, cs, rfl, hr, hcs⟩
  · exact absurd hk h1
  have hpos : 0 < us.length := List.length_pos_iff.2 h1
  have h := run_append_nil (P := Tryz.prog) w 41 41 104 i _ Tryz.underlying41 hi z0 ⟨b, off, none⟩ us.length cap (us.map ic) (by rw [z1]; simp) (fun j v hv => by
    rw [List.getElem?_map] at hv
    obtain ⟨x, hx, rfl⟩ := Option.map_eq_some_iff.1 hv
    rw [Addr.add_lit]
    exact hr.cell (hcs j x hx)) hpos (by omega) (by rw [z2]; omega)
  rw [zero_words] at h
  refine ⟨_, _, h, ⟨_, _, rfl, grownCap_ge _ _ _ _, ?_, ok, .inr ⟨w.heap.size, 0, us ++ List.replicate (grownCap w us.length 0 104 - us.length) 0, rfl, ?_, fun j x hx => ?_⟩⟩, (Below.refl w.heap.size w).drew.alloc (Nat.le_refl _) _⟩
  · have := grownCap_le_maxLen w us.length 0 104 (by unfold maxLen; omega)
    unfold maxLen at this
    omega
  · rw [List.append_toArray, ← List.map_append]
    exact RW.new w.drew _
  · rw [Nat.zero_add, List.getElem?_append_left (List.getElem?_eq_some_iff.1 hx).1]
    exact hx
theorem run_twin0 (p : Option Addr) (cap : Nat) (w : World) :
    (Builtin.append_ #[41, 41] 41 #[.slice none 0 0, .slice p 0 cap]).run Tryz.prog w = .ok (.slice none 0 0) w := by
  obtain ⟨i, hi, z0, z1, z2⟩ := info_u32
  have hf : (Builtin.firstCells i.size 0 (.slice p 0 cap)).run Tryz.prog w = .ok #[] w := by
    cases p with
    | none => exact run_firstCells_none (P := Tryz.prog) w i.size 0 0 cap
    | some a => exact run_firstCells_some (P := Tryz.prog) w i.size 0 a 0 cap [] (by simp) (fun j v h => by simp at h)
  simp [Builtin.append_, run_underlying Tryz.underlying41, sizeOf, typeInfo, hi, Builtin.lenOf, hf]

set_option maxHeartbeats 1000000 in
theorem twin_any (u : Value) (a : Nat) (w : World) (hu : WS w u (Bg.wd a)) (ha : (Bg.wd a).length ≤ 100000) :
    Calls Tryz.prog 61 #[u] w fun e w' => ∃ u, e = .returned u ∧ WS w' u (Bg.wd a) ∧ Below w.heap.size w w' := by
  obtain ⟨p, cap, rfl, _⟩ := id hu
  generalize Bg.wd a = us at *
  by_cases h0 : us = []
  · subst h0
    have hr := run_twin0 p cap w
    rw [List.length_nil]
    go_enter Tryz.func61, Tryz.ntmps61
    go_wp2_with (at_builtin; refine Lib.wpList_append_run _ rfl _ _ _ _ rfl _ _ rfl rfl _ _ hr ?_)
    go_ret
    exact ⟨_, rfl, WS.nil _, Below.refl _ _⟩
  · obtain ⟨v, w1, hr, hv, hb⟩ := run_twin p cap us w hu h0 (by omega)
    have HV := hide hv
    have HB := hide hb
    clear hu hv hb
    go_enter Tryz.func61, Tryz.ntmps61
    go_wp2_with (at_builtin; refine Lib.wpList_append_run _ rfl _ _ _ _ rfl _ _ rfl rfl _ _ hr ?_)
    go_ret
    exact ⟨_, rfl, unhide HV, unhide HB⟩
end Go.Proofs.YtibkemolmpcdcaaGreatDoor

/- Whole numbers in memory: a sign and words; give. -/
namespace Go.Proofs.YtibkemolmpcdcaaGreatDoor
open Go.RowKit

/-- a place for a whole number -/
def ZA (w : World) (b o : Nat) : Prop := ∃ c t, w.heap[b]? = some (.cells c t (0, 0)) ∧ t ≠ 104 ∧ o + 1 < c.size
/-- a whole number in its place -/
structure IA (w : World) (b o : Nat) (z : Int) : Prop where
  place : ZA w b o
  neg : w.cell? ⟨b, o, none⟩ = some (.bool (decide (z < 0)))
  abs : ∃ v, w.cell? ⟨b, o + 1, none⟩ = some v ∧ WS w v (Bg.wd z.natAbs)
/-- all but a whole number's two cells is as it was -/
structure Out (b o : Nat) (w w' : World) : Prop where
  os : w'.os = w.os
  tape : w'.tape = w.tape
  output : w'.output = w.output
  size : w.heap.size ≤ w'.heap.size
  block : ∀ k, k < w.heap.size → k ≠ b → w'.heap[k]? = w.heap[k]?
  self : ∀ c t, w.heap[b]? = some (.cells c t (0, 0)) → ∃ c', w'.heap[b]? = some (.cells c' t (0, 0)) ∧ c'.size = c.size ∧ ∀ i, i ≠ o → i ≠ o + 1 → c'[i]? = c[i]?

theorem ZA.low {w : World} {b o : Nat} (h : ZA w b o) : b < w.heap.size := by
  obtain ⟨c, t, h1, _⟩ := h
  exact (Array.getElem?_eq_some_iff.1 h1).1
theorem ZA.frozen {w : World} {b o : Nat} (h : ZA w b o) (i : Nat) : w.frozen? ⟨b, i, none⟩ = false := by
  obtain ⟨c, t, h1, _⟩ := h
  simp [World.frozen?, h1]
theorem ZA.cell {w : World} {b o : Nat} (h : ZA w b o) : (∃ v, w.cell? ⟨b, o, none⟩ = some v) ∧ ∃ v, w.cell? ⟨b, o + 1, none⟩ = some v := by
  obtain ⟨c, t, h1, _, h2⟩ := h
  constructor
  · exact ⟨c[o]'(by omega), by simp [World.cell?, h1]⟩
  · exact ⟨c[o + 1], by simp [World.cell?, h1]⟩
theorem Out.refl (b o : Nat) (w : World) : Out b o w w := ⟨rfl, rfl, rfl, Nat.le_refl _, fun _ _ _ => rfl, fun c _ h => ⟨c, h, rfl, fun _ _ _ => rfl⟩⟩
theorem Out.of {b o : Nat} {w w' : World} (h : Below w.heap.size w w') : Out b o w w' :=
  ⟨h.os, h.tape, h.output, h.size, fun k hk _ => h.block k hk, fun c _ hc => ⟨c, (h.block b (Array.getElem?_eq_some_iff.1 hc).1).trans hc, rfl, fun _ _ _ => rfl⟩⟩
theorem Out.trans {b o : Nat} {w1 w2 w3 : World} (h : Out b o w1 w2) (k : Out b o w2 w3) : Out b o w1 w3 :=
  ⟨k.os.trans h.os, k.tape.trans h.tape, k.output.trans h.output, Nat.le_trans h.size k.size, fun i hi hb => (k.block i (Nat.lt_of_lt_of_le hi h.size) hb).trans (h.block i hi hb), fun c t hc => by
    obtain ⟨c2, h2, s2, e2⟩ := h.self c t hc
    obtain ⟨c3, h3, s3, e3⟩ := k.self c2 t h2
    exact ⟨c3, h3, s3.trans s2, fun i a b => (e3 i a b).trans (e2 i a b)⟩⟩
theorem Out.set {b o i : Nat} {w : World} {v : Value} (hi : i = o ∨ i = o + 1) : Out b o w (w.setCell ⟨b, i, none⟩ v) :=
  ⟨rfl, rfl, rfl, by simp [World.setCell], fun k _ hk => Below.heap_setCell w ⟨b, i, none⟩ v k hk, fun c _ hc => by
    refine ⟨c.setIfInBounds i v, ?_, by simp, fun l h1 h2 => ?_⟩
    · simp only [World.setCell, Array.getElem?_modify, if_true, hc, Option.map_some]
      rfl
    · rw [Array.getElem?_setIfInBounds_ne (by omega)]⟩
theorem Out.below {b o B : Nat} {w w' : World} (h : Out b o w w') (hb : B ≤ b) (hw : B ≤ w.heap.size) : Below B w w' :=
  ⟨h.os, h.tape, h.output, h.size, fun k hk => h.block k (by omega) (by omega)⟩
theorem Out.kw {b o : Nat} {w w' : World} (h : Out b o w w') (hz : ZA w b o) : KW w w' := fun k cs hk => by
  by_cases e : k = b
  · subst e
    obtain ⟨c, t, h1, h2, _⟩ := hz
    unfold RW at hk
    rw [hk] at h1
    cases h1
    exact absurd rfl h2
  · exact (h.block k hk.low e).trans hk
theorem ZA.below {w w' : World} {b o : Nat} (h : ZA w b o) (hb : Below w.heap.size w w') : ZA w' b o := by
  have l := h.low
  obtain ⟨c, t, h1, h2⟩ := h
  exact ⟨c, t, (hb.block b l).trans h1, h2⟩
theorem ZA.out {w w' : World} {b o b2 o2 : Nat} (h : ZA w b o) (hb : Out b2 o2 w w') : ZA w' b o := by
  have l := h.low
  obtain ⟨c, t, h1, h2, h3⟩ := h
  by_cases e : b = b2
  · subst e
    obtain ⟨c', g1, g2, _⟩ := hb.self c t h1
    exact ⟨c', t, g1, h2, by omega⟩
  · exact ⟨c, t, (hb.block b l e).trans h1, h2, h3⟩
theorem IA.below {w w' : World} {b o : Nat} {z : Int} (h : IA w b o z) (hb : Below w.heap.size w w') : IA w' b o z := by
  have l := h.place.low
  obtain ⟨v, h1, h2⟩ := h.abs
  exact ⟨h.place.below hb, (hb.cell (p := ⟨b, o, none⟩) l).trans h.neg, v, (hb.cell (p := ⟨b, o + 1, none⟩) l).trans h1, h2.below hb⟩
/-- another whole number is as it was -/
theorem IA.out {w w' : World} {b o b2 o2 : Nat} {z : Int} (h : IA w b o z) (hb : Out b2 o2 w w') (h2 : ZA w b2 o2) (ne : b ≠ b2 ∨ o + 1 < o2 ∨ o2 + 1 < o) : IA w' b o z := by
  have l := h.place.low
  obtain ⟨v, h1, hw⟩ := h.abs
  have key : ∀ i, i = o ∨ i = o + 1 → w'.cell? ⟨b, i, none⟩ = w.cell? ⟨b, i, none⟩ := fun i hi => by
    by_cases e : b = b2
    · subst e
      obtain ⟨c, t, g1, _⟩ := h.place
      obtain ⟨c', g2, _, g3⟩ := hb.self c t g1
      have := g3 i (by omega) (by omega)
      simp [World.cell?, g1, g2, this]
    · exact World.cell?_of_block (w := w) (hb.block b l e)
  exact ⟨h.place.out hb, (key o (.inl rfl)).trans h.neg, v, (key (o + 1) (.inr rfl)).trans h1, hw.keep (hb.kw h2)⟩

theorem IA.gave {w : World} {b o : Nat} {v : Value} {z : Int} {x : Bool} (hz : ZA w b o) (hv : WS w v (Bg.wd z.natAbs)) (hx : x = decide (z < 0)) : IA ((w.setCell ⟨b, o + 1, none⟩ v).setCell ⟨b, o, none⟩ (.bool x)) b o z ∧ Out b o w ((w.setCell ⟨b, o + 1, none⟩ v).setCell ⟨b, o, none⟩ (.bool x)) := by
  have O1 : Out b o w (w.setCell ⟨b, o + 1, none⟩ v) := Out.set (.inr rfl)
  have O2 : Out b o (w.setCell ⟨b, o + 1, none⟩ v) ((w.setCell ⟨b, o + 1, none⟩ v).setCell ⟨b, o, none⟩ (.bool x)) := Out.set (.inl rfl)
  obtain ⟨⟨x0, c0⟩, x1, c1⟩ := hz.cell
  subst hx
  refine ⟨⟨(hz.out O1).out O2, ?_, v, ?_, hv.keep ((O1.trans O2).kw hz)⟩, O1.trans O2⟩
  · simp [go_sem, c0]
  · simp [go_sem, c1]

set_option maxHeartbeats 1000000 in
theorem give_any (b o : Nat) (neg : Bool) (n : Nat) (v : Value) (w : World) (hz : ZA w b o) (hv : WS w v (Bg.wd n)) :
    Calls Tryz.prog 57 #[.pointer (some ⟨b, o, none⟩), .bool neg, v] w fun e w' => e = .returned (.pointer (some ⟨b, o, none⟩)) ∧ IA w' b o (if neg = true then -(n : Int) else n) ∧ Out b o w w' := by
  obtain ⟨p, cap, rfl, -⟩ := id hv
  have HV := hide hv
  have HZ := hide hz
  obtain ⟨⟨x0, c0⟩, x1, c1⟩ := hz.cell
  have f0 := hz.frozen o
  have f1 := hz.frozen (o + 1)
  have HL : Hid ((0 < (Bg.wd n).length) ↔ n ≠ 0) := hide (by
    rw [List.length_pos_iff, Ne, Bg.wd_nil])
  clear hv hz
  go_enter Tryz.func57, Tryz.ntmps57
  cases neg with
  | false =>
    have HG := hide (IA.gave (z := (n : Int)) (x := false) (unhide HZ) (unhide HV) (by simp))
    go_wp2
    all_goals
      go_ret
      exact ⟨rfl, unhide HG⟩
  | true =>
    by_cases h0 : 0 < (Bg.wd n).length
    · have h0' : (0 : Int) < ((Bg.wd n).length : Int) := by omega
      have hn0 := (unhide HL).1 h0
      have HG := hide (IA.gave (z := -(n : Int)) (x := true) (unhide HZ) (by rw [Int.natAbs_neg, Int.natAbs_natCast]; exact unhide HV) (by simp; omega))
      go_wp2
      all_goals
        go_ret
        exact ⟨rfl, unhide HG⟩
    · have h0' : ¬ (0 : Int) < ((Bg.wd n).length : Int) := by omega
      have HN0 : Hid (n = 0) := hide (Classical.byContradiction fun h => h0 ((unhide HL).2 h))
      have HG := hide (IA.gave (z := -(n : Int)) (x := false) (unhide HZ) (by rw [Int.natAbs_neg, Int.natAbs_natCast]; exact unhide HV) (by have := unhide HN0; simp; omega))
      go_wp2
      all_goals
        go_ret
        exact ⟨rfl, unhide HG⟩
end Go.Proofs.YtibkemolmpcdcaaGreatDoor

/- A region that draws its order and whose last call writes: by a list that says what each slot holds. -/
namespace Go.Proofs.YtibkemolmpcdcaaGreatDoor
open Go.RowKit

def Ds.isLit : Ds → Value → Prop
  | .lit v, x => x = v
  | .mem _ _, _ => True
  | .any, _ => True
def OkX (g : Bool) (l : List Ds) (i : Nat) (v : Value) (w : World) : Prop := if g = true then ((l[i]?).getD .any).isLit v else OkL l i v w
theorem okx_lit {g : Bool} {l : List Ds} {i : Nat} {v u : Value} {w : World} (h : OkX g l i v w) (hl : (l[i]?).getD .any = .lit u) : v = u := by
  unfold OkX at h
  split at h
  · rw [hl] at h; exact h
  · unfold OkL at h
    rw [hl] at h; exact h
theorem okx_mem {g : Bool} {l : List Ds} {i : Nat} {v : Value} {w : World} (h : OkX g l i v w) (hg : g = false) : OkL l i v w := by
  unfold OkX at h
  rw [hg] at h
  exact h
theorem okx_of {g : Bool} {l : List Ds} {i : Nat} {u : Value} {w : World} (hl : (l[i]?).getD .any = .lit u) : OkX g l i u w := by
  unfold OkX
  split
  · rw [hl]; exact rfl
  · unfold OkL
    rw [hl]; exact rfl

structure RO (w0 : World) (a0 : Act) (N : Nat) (D : List Nat) (gi : Nat) (Fin : World → Prop) (l : List Ds) (L : Nat → Bool) (a : Act) (w : World) : Prop where
  size : a.tmps.size = N
  defs : a.defers = []
  rest : ∀ j, (∀ i d, L i = true → D[i]? = some d → d ≠ j) → G a j = G a0 j
  got : ∀ i d, L i = true → D[i]? = some d → OkX (L gi) l i (G a d) w
  old : L gi = false → Below w0.heap.size w0 w
  fin : L gi = true → Fin w
section
variable {w0 w w' : World} {a0 a a' : Act} {N gi : Nat} {D : List Nat} {Fin : World → Prop} {l : List Ds} {L : Nat → Bool} {ops : Array Oper} {Q : Exit → Act → World → Prop} {i d : Nat} {o : Oper}
theorem RO.keep (h : RO w0 a0 N D gi Fin l L a w) {s : Nat} (hs : s ∉ D) : G a s = G a0 s :=
  h.rest s (fun _ _ _ hd e => hs (e ▸ List.mem_of_getElem? hd))
theorem RO.start (h1 : a0.tmps.size = N) (h2 : a0.defers = []) (h3 : Below w0.heap.size w0 w) : RO w0 a0 N D gi Fin l (fun _ => false) a0 w :=
  ⟨h1, h2, fun _ _ => rfl, fun _ _ h => (by cases h), fun _ => h3, fun h => (by cases h)⟩
theorem nodup_at (nd : D.Nodup) {j : Nat} (hi : D[i]? = some d) (hj : D[j]? = some d) : j = i := by
  obtain ⟨l1, e1⟩ := List.getElem?_eq_some_iff.1 hi
  obtain ⟨l2, e2⟩ := List.getElem?_eq_some_iff.1 hj
  exact (List.getElem_inj nd).1 (e2.trans e1.symm)
theorem RO.step (h : RO w0 a0 N D gi Fin l L a w) (nd : D.Nodup) (i : Nat) {d : Nat} {v : Value} (hi : D[i]? = some d) (ne : gi ≠ i) (U : Upd a d v a') (hd : a'.defers = a.defers) (hw : w' = w ∨ (L gi = false ∧ Below w.heap.size w w')) (ok : OkX (L gi) l i v w') :
    RO w0 a0 N D gi Fin l (fun j => j == i || L j) a' w' := by
  have eg : (gi == i || L gi) = L gi := by simp [ne]
  refine ⟨U.size.trans h.size, hd.trans h.defs, fun j hj => ?_, fun j e hj he => ?_, fun hg => ?_, fun hg => ?_⟩
  · have hne : j ≠ d := fun e => hj i d (by simp) hi e.symm
    rw [U.rest j hne]
    exact h.rest j (fun i' d' hi' hd' => hj i' d' (by simp [hi']) hd')
  · show OkX (gi == i || L gi) l j (G a' e) w'
    rw [eg]
    by_cases e1 : j = i
    · subst e1
      rw [hi] at he
      cases he
      rw [U.got]
      exact ok
    · have hL : L j = true := by simpa [e1] using hj
      have hne : e ≠ d := fun q => e1 (nodup_at nd hi (q ▸ he))
      rw [U.rest e hne]
      have g := h.got j e hL he
      rcases hw with rfl | ⟨hg, hb⟩
      · exact g
      · unfold OkX at *
        rw [hg] at g ⊢
        exact OkL.mono l j _ _ _ hb g
  · have hg' : L gi = false := by rw [← eg]; exact hg
    rcases hw with rfl | ⟨_, hb⟩
    · exact h.old hg'
    · exact (h.old hg').trans (hb.mono (h.old hg').size)
  · have hg' : L gi = true := by rw [← eg]; exact hg
    rcases hw with rfl | ⟨hq, _⟩
    · exact h.fin hg'
    · rw [hg'] at hq; cases hq
theorem RO.last (h : RO w0 a0 N D gi Fin l L a w) (nd : D.Nodup) {d : Nat} {v : Value} (hi : D[gi]? = some d) (hg : L gi = false) (U : Upd a d v a') (hd : a'.defers = a.defers) (ok : ((l[gi]?).getD .any).isLit v) (fin : Fin w') :
    RO w0 a0 N D gi Fin l (fun j => j == gi || L j) a' w' := by
  have eg : (gi == gi || L gi) = true := by simp
  refine ⟨U.size.trans h.size, hd.trans h.defs, fun j hj => ?_, fun j e hj he => ?_, fun hq => ?_, fun _ => fin⟩
  · have hne : j ≠ d := fun e => hj gi d (by simp) hi e.symm
    rw [U.rest j hne]
    exact h.rest j (fun i' d' hi' hd' => hj i' d' (by simp [hi']) hd')
  · show OkX (gi == gi || L gi) l j (G a' e) w'
    rw [eg]
    unfold OkX
    rw [if_pos rfl]
    by_cases e1 : j = gi
    · subst e1
      rw [hi] at he
      cases he
      rw [U.got]
      exact ok
    · have hL : L j = true := by simpa [e1] using hj
      have hne : e ≠ d := fun q => e1 (nodup_at nd hi (q ▸ he))
      rw [U.rest e hne]
      have g := okx_mem (h.got j e hL he) hg
      unfold OkL at g
      generalize (l[j]?).getD .any = x at g ⊢
      cases x with
      | lit u => exact g
      | mem P k => trivial
      | any => trivial
  · simp at hq
theorem ro_val (h : RO w0 a0 N D gi Fin l L a w) (nd : D.Nodup) (hi : ops[i]? = some o) (hd : o.dst = some d) (hDi : D[i]? = some d) (hN : d < N) (ne : gi ≠ i) (hw : Region.wanted o (yielded ops a.tmps) = true) {v : Value} (r : (execOp a.eval o).run Tryz.prog w = .ok (.value v) w) (hl : (l[i]?).getD .any = .lit v) :
    wpOp Tryz.prog ops Q i (fun a' w' => RO w0 a0 N D gi Fin l (fun j => j == i || L j) a' w') a w :=
  o_val hi hd hw (by rw [h.size]; exact hN) r fun _ U hf => h.step nd i hDi ne U hf (.inl rfl) (okx_of hl)
theorem ro_call (h : RO w0 a0 N D gi Fin l L a w) (nd : D.Nodup) (hi : ops[i]? = some o) (hd : o.dst = some d) (hDi : D[i]? = some d) (hN : d < N) (ne : gi ≠ i) (hg : L gi = false) (hw : Region.wanted o (yielded ops a.tmps) = true) {n : Nat} {args : Array Value} (r : (execOp a.eval o).run Tryz.prog w = .ok (.enter n args) w)
    {R : Value → World → Prop} (hc : Calls Tryz.prog n args w fun e w' => ∃ v, e = .returned v ∧ R v w' ∧ Below w.heap.size w w') (ok : ∀ v w', R v w' → OkL l i v w') :
    wpOp Tryz.prog ops Q i (fun a' w' => RO w0 a0 N D gi Fin l (fun j => j == i || L j) a' w') a w :=
  o_enter (R := fun v w' => R v w' ∧ Below w.heap.size w w') hi hd hw (by rw [h.size]; exact hN) r hc fun v _ w' hR U hf => h.step nd i hDi ne U hf (.inr ⟨hg, hR.2⟩) (by unfold OkX; rw [hg]; exact ok v w' hR.1)
theorem ro_last (h : RO w0 a0 N D gi Fin l L a w) (nd : D.Nodup) (hi : ops[gi]? = some o) (hd : o.dst = some d) (hDi : D[gi]? = some d) (hN : d < N) (hg : L gi = false) (hw : Region.wanted o (yielded ops a.tmps) = true) {n : Nat} {args : Array Value} (r : (execOp a.eval o).run Tryz.prog w = .ok (.enter n args) w)
    {R : Value → World → Prop} (hc : Calls Tryz.prog n args w fun e w' => ∃ v, e = .returned v ∧ R v w') (ok : ∀ v w', R v w' → ((l[gi]?).getD .any).isLit v ∧ Fin w') :
    wpOp Tryz.prog ops Q gi (fun a' w' => RO w0 a0 N D gi Fin l (fun j => j == gi || L j) a' w') a w :=
  o_enter (R := R) hi hd hw (by rw [h.size]; exact hN) r hc fun v _ w' hR U hf => h.last nd hDi hg U hf (ok v w' hR).1 (ok v w' hR).2
end

section
variable {a : Act} {w : World} {d : Option Nat} {t : TypeId} {p : String} {af : Array Edge} {g : Option (Nat × Bool)}
theorem run_nil {x : Operand} {ad : Addr} (h : a.eval x = .pointer (some ad)) : (execOp a.eval ⟨d, .nilCheck x, t, p, af, g⟩).run Tryz.prog w = .ok (.value (.pointer (some ad))) w := by
  generalize a.eval = E at h ⊢
  simp [go_sem, h]
theorem run_fld0 {x : Operand} {b o : Nat} (h : a.eval x = .pointer (some ⟨b, o, none⟩)) : (execOp a.eval ⟨d, .fieldAddr 43 x 0, t, p, af, g⟩).run Tryz.prog w = .ok (.value (.pointer (some ⟨b, o, none⟩))) w := by
  generalize a.eval = E at h ⊢
  simp [go_sem, h]
theorem run_fld1 {x : Operand} {b o : Nat} (h : a.eval x = .pointer (some ⟨b, o, none⟩)) : (execOp a.eval ⟨d, .fieldAddr 43 x 1, t, p, af, g⟩).run Tryz.prog w = .ok (.value (.pointer (some ⟨b, o + 1, none⟩))) w := by
  generalize a.eval = E at h ⊢
  simp [go_sem, h]
theorem run_ldB {x : Operand} {ad : Addr} {v : Bool} (h : a.eval x = .pointer (some ad)) (hc : w.cell? ad = some (.bool v)) : (execOp a.eval ⟨d, .load 4 x, t, p, af, g⟩).run Tryz.prog w = .ok (.value (.bool v)) w := by
  generalize a.eval = E at h ⊢
  simp [go_sem, h, hc]
theorem run_ldW {x : Operand} {ad : Addr} {s : Option Addr} {n c : Nat} (h : a.eval x = .pointer (some ad)) (hc : w.cell? ad = some (.slice s n c)) : (execOp a.eval ⟨d, .load 41 x, t, p, af, g⟩).run Tryz.prog w = .ok (.value (.slice s n c)) w := by
  generalize a.eval = E at h ⊢
  simp [go_sem, h, hc]
theorem run_neB {x y : Operand} {u v : Bool} (hx : a.eval x = .bool u) (hy : a.eval y = .bool v) : (execOp a.eval ⟨d, .binOp .neq 4 x y 4, t, p, af, g⟩).run Tryz.prog w = .ok (.value (.bool (u != v))) w := by
  generalize a.eval = E at hx hy ⊢
  simp [go_sem, hx, hy]
  cases u <;> cases v <;> rfl
theorem run_call3 {n : Nat} {x y z : Operand} {vx vy vz : Value} {ts : Array TypeId} (hx : a.eval x = vx) (hy : a.eval y = vy) (hz : a.eval z = vz) (hf : ∀ (zs : Array Value) (w : World), Sem.run Tryz.prog (callFunc n zs) w = .ok (.enter n zs) w) :
    (execOp a.eval ⟨d, .call { callee := .value (.func n), args := #[x, y, z], argTypes := ts }, t, p, af, g⟩).run Tryz.prog w = .ok (.enter n #[vx, vy, vz]) w := by
  have e1 : a.eval (.func n) = .func (.func n) #[] #[] := rfl
  generalize a.eval = E at hx hy hz e1 ⊢
  simp [go_sem, hx, hy, hz, e1, hf]
end
theorem callMul (zs : Array Value) (w : World) : Sem.run Tryz.prog (callFunc 58 zs) w = .ok (.enter 58 zs) w := by simp [go_sem]
theorem callGive (zs : Array Value) (w : World) : Sem.run Tryz.prog (callFunc 57 zs) w = .ok (.enter 57 zs) w := by simp [go_sem]
end Go.Proofs.YtibkemolmpcdcaaGreatDoor

/- Walks: SetInt64, NewInt, Mul. -/
namespace Go.Proofs.YtibkemolmpcdcaaGreatDoor
open Go.RowKit

set_option maxHeartbeats 1000000 in
theorem setInt64_any (b o : Nat) (x : Int) (w : World) (hz : ZA w b o) (h1 : -9223372036854775808 ≤ x) (h2 : x ≤ 9223372036854775807) :
    Calls Tryz.prog 59 #[.pointer (some ⟨b, o, none⟩), .int .i64 x] w fun e w' => e = .returned (.pointer (some ⟨b, o, none⟩)) ∧ IA w' b o x ∧ Out b o w w' := by
  have WW := hide (words_any x.natAbs (by omega) w)
  have GG := hide (fun (wx : World) (v : Value) (hb : Below w.heap.size w wx) (hv : WS wx v (Bg.wd x.natAbs)) => give_any b o (decide (x < 0)) x.natAbs v wx (hz.below hb) hv)
  have HX : Hid ((if decide (x < 0) = true then -(x.natAbs : Int) else (x.natAbs : Int)) = x) := hide (by
    split
    · rename_i h; simp at h; omega
    · rename_i h; simp at h; omega)
  obtain ⟨n, hn⟩ : ∃ n, n = x.natAbs := ⟨_, rfl⟩
  rw [← hn] at WW GG HX
  have HN := hide hn
  go_enter Tryz.func59, Tryz.ntmps59
  by_cases hx : x < 0
  · have e1 : IntKind.u64.wrap x = ((18446744073709551616 - n : Nat) : Int) := by rw [IntKind.wrap_u64]; omega
    have e2 : IntKind.u64.wrap (-((18446744073709551616 - n : Nat) : Int)) = (n : Int) := by rw [IntKind.wrap_u64]; omega
    rw [decide_eq_true hx] at GG HX
    clear hn
    go_wp2_with fail
    refine (unhide WW).mono ?_
    rintro e w1 ⟨v1, rfl, hv1, hb1⟩
    have GC := hide (unhide GG w1 v1 hb1 hv1)
    have HB1 := hide hb1
    clear hv1 hb1 GG WW
    go_wp2_with fail
    refine (unhide GC).mono ?_
    rintro e w2 ⟨rfl, hi2, ho2⟩
    have HI := hide hi2
    have HO := hide ho2
    clear hi2 ho2
    go_wp2
    go_ret
    refine ⟨rfl, ?_, (Out.of (unhide HB1)).trans (unhide HO)⟩
    have := unhide HI
    rw [unhide HX] at this
    exact this
  · have e1 : IntKind.u64.wrap x = (n : Int) := by rw [IntKind.wrap_u64]; omega
    rw [decide_eq_false hx] at GG HX
    clear hn
    go_wp2_with fail
    refine (unhide WW).mono ?_
    rintro e w1 ⟨v1, rfl, hv1, hb1⟩
    have GC := hide (unhide GG w1 v1 hb1 hv1)
    have HB1 := hide hb1
    clear hv1 hb1 GG WW
    go_wp2_with fail
    refine (unhide GC).mono ?_
    rintro e w2 ⟨rfl, hi2, ho2⟩
    have HI := hide hi2
    have HO := hide ho2
    clear hi2 ho2
    go_wp2
    go_ret
    refine ⟨rfl, ?_, (Out.of (unhide HB1)).trans (unhide HO)⟩
    have := unhide HI
    rw [unhide HX] at this
    exact this

theorem IA.drew {w : World} {b o : Nat} {z : Int} (h : IA w b o z) : IA w.drew b o z := h.below (Below.refl _ _).drew
theorem Out.drew {w w' : World} {b o : Nat} (h : Out b o w w') : Out b o w w'.drew := h.trans (Out.of (Below.refl _ _).drew)
theorem mul_sign (x y : Int) : (if (decide (x < 0) != decide (y < 0)) = true then -((x.natAbs * y.natAbs : Nat) : Int) else ((x.natAbs * y.natAbs : Nat) : Int)) = x * y := by
  rw [Int.natCast_mul]
  rcases Int.lt_or_le x 0 with hx | hx <;> rcases Int.lt_or_le y 0 with hy | hy
  · rw [decide_eq_true hx, decide_eq_true hy, if_neg (by decide), Int.ofNat_natAbs_of_nonpos (by omega), Int.ofNat_natAbs_of_nonpos (by omega), Int.neg_mul_neg]
  · rw [decide_eq_true hx, decide_eq_false (by omega), if_pos (by decide), Int.ofNat_natAbs_of_nonpos (by omega), Int.natAbs_of_nonneg hy, Int.neg_mul, Int.neg_neg]
  · rw [decide_eq_false (by omega), decide_eq_true hy, if_pos (by decide), Int.natAbs_of_nonneg hx, Int.ofNat_natAbs_of_nonpos (by omega), Int.mul_neg, Int.neg_neg]
  · rw [decide_eq_false (by omega), decide_eq_false (by omega), if_neg (by decide), Int.natAbs_of_nonneg hx, Int.natAbs_of_nonneg hy]

set_option maxHeartbeats 1000000 in
theorem newInt_any (x : Int) (w : World) (h1 : -9223372036854775808 ≤ x) (h2 : x ≤ 9223372036854775807) :
    Calls Tryz.prog 33 #[.int .i64 x] w fun e w' => e = .returned (.pointer (some ⟨w.heap.size, 0, none⟩)) ∧ IA w' w.heap.size 0 x ∧ Below w.heap.size w w' := by
  have hz : ZA (w.alloc (.cells #[.bool false, .slice none 0 0] 43)) w.heap.size 0 := ⟨#[.bool false, .slice none 0 0], 43, by show (w.heap.push _)[w.heap.size]? = _; simp, by decide, by simp⟩
  have SI := hide (setInt64_any w.heap.size 0 x _ hz h1 h2)
  clear hz
  go_enter Tryz.func33, Tryz.ntmps33
  go_wp2_with fail
  refine (unhide SI).mono ?_
  rintro e w2 ⟨rfl, hi2, ho2⟩
  have HI := hide hi2
  have HO := hide ho2
  clear hi2 ho2
  go_wp2
  go_ret
  exact ⟨rfl, unhide HI, (below_new _ _).trans ((unhide HO).below (Nat.le_refl _) (by simp))⟩
end Go.Proofs.YtibkemolmpcdcaaGreatDoor

/- Walks: Mul of whole numbers. -/
namespace Go.Proofs.YtibkemolmpcdcaaGreatDoor
open Go.RowKit

def dws (n : Nat) : Ds := .mem (fun v w => WS w v (Bg.wd n)) (fun _ _ _ hb h => h.below hb)
theorem frame27 {a : Act} (hs : a.tmps.size = 27) (hd : a.defers = []) : a = { tmps := #[G a 0, G a 1, G a 2, G a 3, G a 4, G a 5, G a 6, G a 7, G a 8, G a 9, G a 10, G a 11, G a 12, G a 13, G a 14, G a 15, G a 16, G a 17, G a 18, G a 19, G a 20, G a 21, G a 22, G a 23, G a 24, G a 25, G a 26], defers := [] } := frame_is hs hd

set_option maxRecDepth 100000 in
set_option maxHeartbeats 4000000 in
theorem imul_any (b o bx ox b2 oy : Nat) (x y : Int) (w : World) (hz : ZA w b o) (hx : IA w bx ox x) (hy : IA w b2 oy y) (lx : (Bg.wd x.natAbs).length ≤ 100000) (ly : (Bg.wd y.natAbs).length ≤ 100000) :
    Calls Tryz.prog 31 #[.pointer (some ⟨b, o, none⟩), .pointer (some ⟨bx, ox, none⟩), .pointer (some ⟨b2, oy, none⟩)] w fun e w' => e = .returned (.pointer (some ⟨b, o, none⟩)) ∧ IA w' b o (x * y) ∧ Out b o w w' := by
  obtain ⟨vx, x1, x2⟩ := hx.abs
  obtain ⟨vy, y1, y2⟩ := hy.abs
  obtain ⟨px, cx, rfl, -⟩ := id x2
  obtain ⟨py, cy, rfl, -⟩ := id y2
  have x0 := hx.neg
  have y0 := hy.neg
  have bx0 := hx.place.low
  have by0 := hy.place.low
  have M : Hid (∀ wx, Below w.heap.size w wx → Calls Tryz.prog 58 #[.slice px (Bg.wd x.natAbs).length cx, .slice py (Bg.wd y.natAbs).length cy] wx fun e w' => ∃ v, e = .returned v ∧ WS w' v (Bg.wd (x.natAbs * y.natAbs)) ∧ Below wx.heap.size wx w') := hide fun wx hb => mul_any _ _ x.natAbs y.natAbs wx (x2.below hb) (y2.below hb) lx ly
  have GV : Hid (∀ wx v, Below w.heap.size w wx → WS wx v (Bg.wd (x.natAbs * y.natAbs)) → Calls Tryz.prog 57 #[.pointer (some ⟨b, o, none⟩), .bool (decide (x < 0) != decide (y < 0)), v] wx fun e w' => ∃ v, e = .returned v ∧ v = .pointer (some ⟨b, o, none⟩) ∧ IA w' b o (x * y) ∧ Out b o w w') := hide fun wx v hb hv => by
    refine (give_any b o _ _ v wx (hz.below hb) hv).mono ?_
    rintro e w' ⟨rfl, hi, ho⟩
    rw [mul_sign] at hi
    exact ⟨_, rfl, rfl, hi, (Out.of hb).trans ho⟩
  clear x2 y2 hx hy lx ly
  go_enter Tryz.func31, Tryz.ntmps31
  go_upto_region 1 with fail
  refine frame_intro (fun a => G a 0 = .pointer (some ⟨b, o, none⟩) ∧ G a 1 = .pointer (some ⟨bx, ox, none⟩) ∧ G a 2 = .pointer (some ⟨b2, oy, none⟩) ∧ a.tmps.size = 27 ∧ a.defers = []) ⟨rfl, rfl, rfl, rfl, rfl⟩ ?_
  rintro f0 ⟨s0, s1, s2, hsz, hdf⟩
  refine region_any (I := RO w f0 27 [7, 8, 9, 10, 11, 12, 13, 14, 15, 16, 17, 18, 19, 20, 21, 22, 23, 24, 25, 26, 6] 19 (fun w' => IA w' b o (x * y) ∧ Out b o w w') [.lit (.pointer (some ⟨b, o, none⟩)), .lit (.pointer (some ⟨bx, ox, none⟩)), .lit (.pointer (some ⟨bx, ox, none⟩)), .lit (.pointer (some ⟨bx, ox, none⟩)), .lit (.bool (decide (x < 0))), .lit (.pointer (some ⟨b2, oy, none⟩)), .lit (.pointer (some ⟨b2, oy, none⟩)), .lit (.pointer (some ⟨b2, oy, none⟩)), .lit (.bool (decide (y < 0))), .lit (.bool ((decide (x < 0)) != (decide (y < 0)))), .lit (.pointer (some ⟨bx, ox, none⟩)), .lit (.pointer (some ⟨bx, ox, none⟩)), .lit (.pointer (some ⟨bx, ox + 1, none⟩)), .lit (.slice px (Bg.wd x.natAbs).length cx), .lit (.pointer (some ⟨b2, oy, none⟩)), .lit (.pointer (some ⟨b2, oy, none⟩)), .lit (.pointer (some ⟨b2, oy + 1, none⟩)), .lit (.slice py (Bg.wd y.natAbs).length cy), dws (x.natAbs * y.natAbs), .lit (.pointer (some ⟨b, o, none⟩)), .lit (.pointer (some ⟨b, o, none⟩))]) (by kernel_rfl) ?wait ?step ?done ?start
  case wait => exact ⟨by simp, by simp, by simp, by simp, by simp, by simp, by simp, by simp, by simp, by simp, by simp, by simp, by simp, by simp, by simp, by simp, by simp, by simp, by simp, by simp, by simp, trivial⟩
  case start => exact RO.start hsz hdf ((Below.refl _ _).drew)
  case step =>
    refine ⟨?_, ?_, ?_, ?_, ?_, ?_, ?_, ?_, ?_, ?_, ?_, ?_, ?_, ?_, ?_, ?_, ?_, ?_, ?_, ?_, ?_, trivial⟩
    · rintro L fa wx h hcl hL hw2
      exact ro_val h (by decide) rfl rfl rfl (by decide) (by decide) rfl (run_mv (eval_G ((h.keep (s := 0) (by decide)).trans s0))) rfl
    · rintro L fa wx h hcl hL hw2
      exact ro_val h (by decide) rfl rfl rfl (by decide) (by decide) rfl (run_mv (eval_G ((h.keep (s := 1) (by decide)).trans s1))) rfl
    · rintro L fa wx h hcl hL hw2
      exact ro_val h (by decide) rfl rfl rfl (by decide) (by decide) rfl (run_nil (eval_G (show G fa 8 = .pointer (some ⟨bx, ox, none⟩) from okx_lit (h.got 1 8 (hw2 ⟨1, .data⟩ (by simp) rfl) rfl) rfl))) rfl
    · rintro L fa wx h hcl hL hw2
      exact ro_val h (by decide) rfl rfl rfl (by decide) (by decide) rfl (run_fld0 (eval_G (show G fa 9 = .pointer (some ⟨bx, ox, none⟩) from okx_lit (h.got 2 9 (hw2 ⟨2, .data⟩ (by simp) rfl) rfl) rfl))) rfl
    · rintro L fa wx h hcl hL hw2
      exact ro_val h (by decide) rfl rfl rfl (by decide) (by decide) rfl (run_ldB (eval_G (show G fa 10 = .pointer (some ⟨bx, ox, none⟩) from okx_lit (h.got 3 10 (hw2 ⟨3, .data⟩ (by simp) rfl) rfl) rfl)) (((h.old (Bool.eq_false_iff.2 fun hq => by have hz := (hcl 9 _ rfl (hcl 19 _ rfl hq ⟨9, .data⟩ (by simp) rfl) ⟨4, .data⟩ (by simp) rfl); rw [hL] at hz; cases hz)).cell (p := ⟨bx, ox, none⟩) bx0).trans x0)) rfl
    · rintro L fa wx h hcl hL hw2
      exact ro_val h (by decide) rfl rfl rfl (by decide) (by decide) rfl (run_mv (eval_G ((h.keep (s := 2) (by decide)).trans s2))) rfl
    · rintro L fa wx h hcl hL hw2
      exact ro_val h (by decide) rfl rfl rfl (by decide) (by decide) rfl (run_nil (eval_G (show G fa 12 = .pointer (some ⟨b2, oy, none⟩) from okx_lit (h.got 5 12 (hw2 ⟨5, .data⟩ (by simp) rfl) rfl) rfl))) rfl
    · rintro L fa wx h hcl hL hw2
      exact ro_val h (by decide) rfl rfl rfl (by decide) (by decide) rfl (run_fld0 (eval_G (show G fa 13 = .pointer (some ⟨b2, oy, none⟩) from okx_lit (h.got 6 13 (hw2 ⟨6, .data⟩ (by simp) rfl) rfl) rfl))) rfl
    · rintro L fa wx h hcl hL hw2
      exact ro_val h (by decide) rfl rfl rfl (by decide) (by decide) rfl (run_ldB (eval_G (show G fa 14 = .pointer (some ⟨b2, oy, none⟩) from okx_lit (h.got 7 14 (hw2 ⟨7, .data⟩ (by simp) rfl) rfl) rfl)) (((h.old (Bool.eq_false_iff.2 fun hq => by have hz := (hcl 9 _ rfl (hcl 19 _ rfl hq ⟨9, .data⟩ (by simp) rfl) ⟨8, .data⟩ (by simp) rfl); rw [hL] at hz; cases hz)).cell (p := ⟨b2, oy, none⟩) by0).trans y0)) rfl
    · rintro L fa wx h hcl hL hw2
      exact ro_val h (by decide) rfl rfl rfl (by decide) (by decide) rfl (run_neB (eval_G (show G fa 11 = .bool (decide (x < 0)) from okx_lit (h.got 4 11 (hw2 ⟨4, .data⟩ (by simp) rfl) rfl) rfl)) (eval_G (show G fa 15 = .bool (decide (y < 0)) from okx_lit (h.got 8 15 (hw2 ⟨8, .data⟩ (by simp) rfl) rfl) rfl))) rfl
    · rintro L fa wx h hcl hL hw2
      exact ro_val h (by decide) rfl rfl rfl (by decide) (by decide) rfl (run_mv (eval_G ((h.keep (s := 1) (by decide)).trans s1))) rfl
    · rintro L fa wx h hcl hL hw2
      exact ro_val h (by decide) rfl rfl rfl (by decide) (by decide) rfl (run_nil (eval_G (show G fa 17 = .pointer (some ⟨bx, ox, none⟩) from okx_lit (h.got 10 17 (hw2 ⟨10, .data⟩ (by simp) rfl) rfl) rfl))) rfl
    · rintro L fa wx h hcl hL hw2
      exact ro_val h (by decide) rfl rfl rfl (by decide) (by decide) rfl (run_fld1 (eval_G (show G fa 18 = .pointer (some ⟨bx, ox, none⟩) from okx_lit (h.got 11 18 (hw2 ⟨11, .data⟩ (by simp) rfl) rfl) rfl))) rfl
    · rintro L fa wx h hcl hL hw2
      exact ro_val h (by decide) rfl rfl rfl (by decide) (by decide) rfl (run_ldW (eval_G (show G fa 19 = .pointer (some ⟨bx, ox + 1, none⟩) from okx_lit (h.got 12 19 (hw2 ⟨12, .data⟩ (by simp) rfl) rfl) rfl)) (((h.old (Bool.eq_false_iff.2 fun hq => by have hz := (hcl 18 _ rfl (hcl 19 _ rfl hq ⟨18, .data⟩ (by simp) rfl) ⟨13, .data⟩ (by simp) rfl); rw [hL] at hz; cases hz)).cell (p := ⟨bx, ox + 1, none⟩) bx0).trans x1)) rfl
    · rintro L fa wx h hcl hL hw2
      exact ro_val h (by decide) rfl rfl rfl (by decide) (by decide) rfl (run_mv (eval_G ((h.keep (s := 2) (by decide)).trans s2))) rfl
    · rintro L fa wx h hcl hL hw2
      exact ro_val h (by decide) rfl rfl rfl (by decide) (by decide) rfl (run_nil (eval_G (show G fa 21 = .pointer (some ⟨b2, oy, none⟩) from okx_lit (h.got 14 21 (hw2 ⟨14, .data⟩ (by simp) rfl) rfl) rfl))) rfl
    · rintro L fa wx h hcl hL hw2
      exact ro_val h (by decide) rfl rfl rfl (by decide) (by decide) rfl (run_fld1 (eval_G (show G fa 22 = .pointer (some ⟨b2, oy, none⟩) from okx_lit (h.got 15 22 (hw2 ⟨15, .data⟩ (by simp) rfl) rfl) rfl))) rfl
    · rintro L fa wx h hcl hL hw2
      exact ro_val h (by decide) rfl rfl rfl (by decide) (by decide) rfl (run_ldW (eval_G (show G fa 23 = .pointer (some ⟨b2, oy + 1, none⟩) from okx_lit (h.got 16 23 (hw2 ⟨16, .data⟩ (by simp) rfl) rfl) rfl)) (((h.old (Bool.eq_false_iff.2 fun hq => by have hz := (hcl 18 _ rfl (hcl 19 _ rfl hq ⟨18, .data⟩ (by simp) rfl) ⟨17, .data⟩ (by simp) rfl); rw [hL] at hz; cases hz)).cell (p := ⟨b2, oy + 1, none⟩) by0).trans y1)) rfl
    · rintro L fa wx h hcl hL hw2
      exact ro_call (R := fun v w' => WS w' v (Bg.wd (x.natAbs * y.natAbs))) h (by decide) rfl rfl rfl (by decide) (by decide) (Bool.eq_false_iff.2 fun hq => by have hz := (hcl 19 _ rfl hq ⟨18, .data⟩ (by simp) rfl); rw [hL] at hz; cases hz) rfl (run_call2 (eval_G (show G fa 20 = .slice px (Bg.wd x.natAbs).length cx from okx_lit (h.got 13 20 (hw2 ⟨13, .data⟩ (by simp) rfl) rfl) rfl)) (eval_G (show G fa 24 = .slice py (Bg.wd y.natAbs).length cy from okx_lit (h.got 17 24 (hw2 ⟨17, .data⟩ (by simp) rfl) rfl) rfl)) callMul) (unhide M wx (h.old (Bool.eq_false_iff.2 fun hq => by have hz := (hcl 19 _ rfl hq ⟨18, .data⟩ (by simp) rfl); rw [hL] at hz; cases hz))) (fun _ _ q => q)
    · rintro L fa wx h hcl hL hw2
      have m2 := okx_mem (h.got 18 25 (hw2 ⟨18, .data⟩ (by simp) rfl) rfl) hL
      exact ro_last (R := fun v w' => v = .pointer (some ⟨b, o, none⟩) ∧ IA w' b o (x * y) ∧ Out b o w w') h (by decide) rfl rfl rfl (by decide) hL rfl (run_call3 (eval_G (show G fa 7 = .pointer (some ⟨b, o, none⟩) from okx_lit (h.got 0 7 (hw2 ⟨0, .data⟩ (by simp) rfl) rfl) rfl)) (eval_G (show G fa 16 = .bool ((decide (x < 0)) != (decide (y < 0))) from okx_lit (h.got 9 16 (hw2 ⟨9, .data⟩ (by simp) rfl) rfl) rfl)) rfl callGive) (unhide GV wx _ (h.old hL) m2) (fun _ _ q => ⟨q.1, q.2⟩)
    · rintro L fa wx h hcl hL hw2
      exact ro_val h (by decide) rfl rfl rfl (by decide) (by decide) rfl (run_asg (eval_G (show G fa 26 = .pointer (some ⟨b, o, none⟩) from okx_lit (h.got 19 26 (hw2 ⟨19, .data⟩ (by simp) rfl) rfl) rfl))) rfl
  case done =>
    rintro L f1 w3 h hall
    have q6 : G f1 6 = .pointer (some ⟨b, o, none⟩) := okx_lit (h.got 20 6 (hall 20 (by simp)) rfl) rfl
    have HF := hide (h.fin (hall 19 (by simp)))
    rw [frame27 h.size h.defs, q6]
    clear h hall q6
    go_wp2
    go_ret
    exact ⟨rfl, unhide HF⟩
end Go.Proofs.YtibkemolmpcdcaaGreatDoor
