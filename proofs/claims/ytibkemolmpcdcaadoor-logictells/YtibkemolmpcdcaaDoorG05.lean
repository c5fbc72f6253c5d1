/- Walks: right. -/
import Derived.Test.YtibkemolmpcdcaaDoorG03
import Derived.Test.YtibkemolmpcdcaaDoorG04
import Derived.Laws.CopyOwn
import Derived.Test.YtibkemolmpcdcaaDoorG02
namespace Go.Proofs.YtibkemolmpcdcaaDoor
open Go.RowKit

set_option maxHeartbeats 2000000 in
theorem right_go (p : Option Addr) (cap s : Nat) (us : List Nat) (w : World) (hu : WS w (.slice p us.length cap) us) (h1 : 1 ≤ us.length) (l1 : us.length ≤ 1000000) (hs : s < 32) :
    Calls Tryd.prog 73 #[.slice p us.length cap, .int .u64 (s : Int)] w fun e w' => ∃ u, e = .returned u ∧ WS w' u (Bg.wd (Bg.val us / 2 ^ s)) ∧ Below w.heap.size w w' := by
  have CA := hide (WS.at hu)
  have OA := hide (fun i x h => hu.cells.2.2.2.1.at (i := i) (x := x) h)
  have OK := hide hu.cells.2.2.2.1
  clear hu
  have g1 : ¬ (us.length : Int) ≤ 0 := by omega
  have hmk := mkw w us.length (us.length : Int) rfl (by omega)
  have hmk2 := mkw w us.length ((us.length : Int) - 0) (by omega) (by omega)
  have g2 : ¬ us.length ≤ 0 := by omega
  have g3 : ¬ us = [] := by intro e; rw [e] at h1; simp at h1
  have q1 : ((s : Int)).tdiv 32 = 0 := by rw [Int.tdiv_eq_ediv_of_nonneg (by omega)]; omega
  have q2 : ((s : Int)).tmod 32 = (s : Int) := by rw [Int.tmod_eq_emod_of_nonneg (by omega)]; omega
  go_enter Tryd.func73, Tryd.ntmps73
  go_wp2_with fail
  go_loopw [8] (fun i wr => ∃ (m : Nat) (rs : List Nat), m ≤ us.length ∧ i = .int .i64 (m : Int) ∧ rs.length = us.length ∧ Hid (Bg.Ok rs) ∧ Hid (∀ j x, m ≤ j → rs[j]? = some x → x = 0) ∧ Hid (Bg.val rs = Bg.val us / 2 ^ s % 4294967296 ^ m) ∧ Hid (RW wr w.heap.size rs) ∧ Hid (Below w.heap.size w wr)) (fun i _ => us.length - (intOf i).toNat)
  case atStart => exact ⟨0, List.replicate us.length 0, Nat.zero_le _, rfl, by simp, hide (Bg.Ok.zeros _), hide (Bg.zero_rep _), hide (by rw [Bg.val_zeros]; simp [Nat.mod_one]), hide (RW.made _ _), hide (below_new _ _)⟩
  case round =>
    obtain ⟨m, rs, hml, rfl, hrl, HO, HZ, HE, HR, HB⟩ := hrel
    clear hmk hmk2
    have fz := (unhide HR).frozen
    by_cases hlt : m < us.length
    · have hlt' : (m : Int) < (us.length : Int) := by omega
      obtain ⟨x, hx⟩ : ∃ x, us[m]? = some x := ⟨_, List.getElem?_eq_getElem hlt⟩
      obtain ⟨b1, o1, rfl, lb1, c1⟩ := unhide CA m x hx
      have hxb : x < 4294967296 := unhide OA m x hx
      have d1 := ((unhide HB).cell (p := ⟨b1, o1 + m, none⟩) lb1).trans c1
      obtain ⟨r0, hr0⟩ : ∃ r0, rs[m]? = some r0 := ⟨_, List.getElem?_eq_getElem (by omega)⟩
      have d0 := (unhide HR).cell hr0
      have f0 := fz m
      have V1 := Bg.val_word (unhide OK) hx
      by_cases hl2 : m + 1 < us.length
      · have hl2' : (m : Int) + 1 < (us.length : Int) := by omega
        obtain ⟨y, hy⟩ : ∃ y, us[m + 1]? = some y := ⟨_, List.getElem?_eq_getElem hl2⟩
        obtain ⟨b2, o2, e2, lb2, c2⟩ := unhide CA (m + 1) y hy
        cases e2
        have hyb : y < 4294967296 := unhide OA (m + 1) y hy
        have d2 := ((unhide HB).cell (p := ⟨b1, o1 + (m + 1), none⟩) lb2).trans c2
        have HD : Hid (Bg.val us / 2 ^ s / 4294967296 ^ m % 4294967296 = (x + 4294967296 * y) / 2 ^ s % 4294967296) := hide (Bg.right_dig hs (by rw [V1, Bg.val_word (unhide OK) hy]))
        have HOR := hide (or_shift hxb hyb)
        clear hx hy hr0 c1 c2 fz V1
        go_wp2
        rw [unhide HOR]
        obtain ⟨V, hV⟩ : ∃ V, V = x + 4294967296 * y := ⟨_, rfl⟩
        rw [← hV] at HD ⊢
        have hcv : (V : Int) / 2 ^ s % 4294967296 = ((V / 2 ^ s % 4294967296 : Nat) : Int) := by simp
        rw [hcv]
        go_roundw
        case rel => exact ⟨m + 1, rs.set m (V / 2 ^ s % 4294967296), by omega, by go_num, by simpa using hrl, hide ((unhide HO).set _ (Nat.mod_lt _ (by omega))), hide (Bg.zero_set (unhide HZ)), hide (by
            rw [Bg.val_set0 (unhide HZ) (by omega), Nat.pow_succ, Bg.mod_step, unhide HE, unhide HD]), hide ((unhide HR).set m _), hide (below_set (unhide HB) (Nat.le_refl _))⟩
        case measure => simp [intOf]; omega
      · have hl2' : ¬ (m : Int) + 1 < (us.length : Int) := by omega
        have HD : Hid (Bg.val us / 2 ^ s / 4294967296 ^ m % 4294967296 = (x + 4294967296 * 0) / 2 ^ s % 4294967296) := hide (Bg.right_dig (K := 0) hs (by rw [V1, Bg.val_none (unhide OK) (by omega)]))
        clear hx hr0 c1 fz V1
        rw [Nat.mul_zero, Nat.add_zero] at HD
        go_wp2
        have hcv : (x : Int) / 2 ^ s % 4294967296 = ((x / 2 ^ s % 4294967296 : Nat) : Int) := by simp
        rw [hcv]
        go_roundw
        case rel => exact ⟨m + 1, rs.set m (x / 2 ^ s % 4294967296), by omega, by go_num, by simpa using hrl, hide ((unhide HO).set _ (Nat.mod_lt _ (by omega))), hide (Bg.zero_set (unhide HZ)), hide (by
            rw [Bg.val_set0 (unhide HZ) (by omega), Nat.pow_succ, Bg.mod_step, unhide HE, unhide HD]), hide ((unhide HR).set m _), hide (below_set (unhide HB) (Nat.le_refl _))⟩
        case measure => simp [intOf]; omega
    · obtain rfl : m = us.length := by omega
      have T : Hid (∀ wx, RW wx w.heap.size rs → Calls Tryd.prog 68 #[.slice (some ⟨w.heap.size, 0, none⟩) us.length us.length] wx fun e w' => ∃ u, e = .returned u ∧ WS w' u (Bg.wd (Bg.val us / 2 ^ s)) ∧ Below wx.heap.size wx w') := hide fun wx h => by
        have e := unhide HE
        rw [Nat.mod_eq_of_lt (Nat.lt_of_le_of_lt (Nat.div_le_self _ _) (Bg.val_lt (unhide OK)))] at e
        have t := trim_any (.slice (some ⟨w.heap.size, 0, none⟩) us.length us.length) rs wx (by
          have := WS.whole h (unhide HO) (cap := us.length) (by simp [hrl]) (by omega)
          simpa [hrl] using this)
        rwa [e] at t
      clear fz
      go_wp2_with fail
      refine (unhide T _ (unhide HR)).mono ?_
      rintro e w1 ⟨u, rfl, hu, hb⟩
      have HU := hide hu
      have HB1 := hide hb
      clear hu hb
      go_wp2
      go_ret
      exact ⟨_, rfl, unhide HU, below_via (unhide HB) (unhide HB1)⟩

set_option maxHeartbeats 1000000 in
theorem right_no (p : Option Addr) (cap s : Nat) (w : World) (hs : s < 32) :
    Calls Tryd.prog 73 #[.slice p 0 cap, .int .u64 (s : Int)] w fun e w' => e = .returned (.slice none 0 0) ∧ w' = w := by
  have q1 : ((s : Int)).tdiv 32 = 0 := by rw [Int.tdiv_eq_ediv_of_nonneg (by omega)]; omega
  have q2 : ((s : Int)).tmod 32 = (s : Int) := by rw [Int.tmod_eq_emod_of_nonneg (by omega)]; omega
  go_enter Tryd.func73, Tryd.ntmps73
  go_wp2
  go_ret
  exact ⟨rfl, rfl⟩

theorem right_any (u : Value) (a s : Nat) (w : World) (hu : WS w u (Bg.wd a)) (ha : (Bg.wd a).length ≤ 100000) (hs : s < 32) :
    Calls Tryd.prog 73 #[u, .int .u64 (s : Int)] w fun e w' => ∃ u, e = .returned u ∧ WS w' u (Bg.wd (a / 2 ^ s)) ∧ Below w.heap.size w w' := by
  obtain ⟨p, cap, rfl, _⟩ := id hu
  by_cases h0 : a = 0
  · subst h0
    rw [Bg.wd_zero, Nat.zero_div]
    refine (right_no p cap s w hs).mono ?_
    rintro e w' ⟨rfl, rfl⟩
    exact ⟨_, rfl, by rw [Bg.wd_zero]; exact WS.nil _, Below.refl _ _⟩
  · have := right_go p cap s _ w hu (by rw [Bg.wd_pos h0]; simp) (by omega) hs
    rwa [Bg.val_wd] at this
end Go.Proofs.YtibkemolmpcdcaaDoor

/- Walks: div, the easy cases. -/
namespace Go.Proofs.YtibkemolmpcdcaaDoor
open Go.RowKit

theorem wd_pos_len {n : Nat} (h : n ≠ 0) : 1 ≤ (Bg.wd n).length := by rw [Bg.wd_pos h]; simp
theorem wd_len2 {n : Nat} (h : (Bg.wd n).length ≤ 2) : n < 18446744073709551616 := by
  have := Bg.wd_lt n
  have h2 : 4294967296 ^ (Bg.wd n).length ≤ 4294967296 ^ 2 := Nat.pow_le_pow_right (by omega) h
  omega
theorem wd_len1 {n : Nat} (h : (Bg.wd n).length = 1) : n < 4294967296 := by
  have := Bg.wd_lt n
  rw [h] at this
  omega

set_option maxRecDepth 100000 in
set_option maxHeartbeats 1000000 in
theorem div_easy (u v : Value) (a b : Nat) (w : World) (hu : WS w u (Bg.wd a)) (hv : WS w v (Bg.wd b)) (ha : (Bg.wd a).length ≤ 100000) (hb : (Bg.wd b).length ≤ 100000) (b0 : b ≠ 0) (hc : a < b ∨ (Bg.wd a).length ≤ 2 ∨ (Bg.wd b).length = 1) :
    Calls Tryd.prog 66 #[u, v] w fun e w' => ∃ p q, e = .returned (.tuple #[p, q]) ∧ WS w' p (Bg.wd (a / b)) ∧ WS w' q (Bg.wd (a % b)) ∧ Below w.heap.size w w' := by
  obtain ⟨p, cap, rfl, _⟩ := id hu
  obtain ⟨q, cap2, rfl, _⟩ := id hv
  have CM := hide (cmp_any _ _ a b w hu hv)
  have HU := hide hu
  have HV := hide hv
  have hlb := wd_pos_len b0
  have g1 : (((Bg.wd b).length : Int) == 0) = false := by rw [beq_eq_false_iff_ne]; omega
  obtain ⟨la, hla⟩ : ∃ la, la = (Bg.wd a).length := ⟨_, rfl⟩
  obtain ⟨lb, hlb2⟩ : ∃ lb, lb = (Bg.wd b).length := ⟨_, rfl⟩
  have HLA := hide hla
  have HLB := hide hlb2
  rw [← hla] at ha hc CM ⊢
  rw [← hlb2] at hb hc hlb g1 CM ⊢
  clear hu hv hla hlb2
  go_enter Tryd.func66, Tryd.ntmps66
  go_wp2_with fail
  refine (unhide CM).mono ?_
  rintro e w1 ⟨rfl, hb1⟩
  have HB1 := hide hb1
  clear hb1 CM
  by_cases hab : a < b
  · rw [Bg.cmpN_lt hab]
    have TW := hide (twin_any _ a w1 ((unhide HU).below (unhide HB1)) (by rw [← unhide HLA]; exact ha))
    rw [← unhide HLA] at TW
    go_wp2_with fail
    refine (unhide TW).mono ?_
    rintro e w2 ⟨u2, rfl, hu2, hb2⟩
    have HU2 := hide hu2
    have HB2 := hide hb2
    clear hu2 hb2
    go_wp2
    refine bodyPost_ret (v := .tuple #[.slice none 0 0, u2]) (by simp [results, Tryd.results66, go_sem]) rfl ?_
    exact ⟨_, _, rfl, by rw [Nat.div_eq_of_lt hab, Bg.wd_zero]; exact WS.nil _, by rw [Nat.mod_eq_of_lt hab]; exact unhide HU2, below_via (unhide HB1) (unhide HB2)⟩
  · have hcm : ¬ Bg.cmpN a b < 0 := by
      rcases Nat.eq_or_lt_of_le (Nat.le_of_not_lt hab) with e | e
      · rw [Bg.cmpN_eq e.symm]; omega
      · rw [Bg.cmpN_gt e]; omega
    generalize Bg.cmpN a b = cm at *
    by_cases hl2 : la ≤ 2
    · have hl2' : (la : Int) ≤ 2 := by omega
      have hab2 : b ≤ a := by omega
      have A64 : a < 18446744073709551616 := wd_len2 (by rw [← unhide HLA]; exact hl2)
      have PA : Hid (∀ wx, Below w1.heap.size w1 wx → Calls Tryd.prog 69 #[.slice p la cap] wx fun e w' => e = .returned (.int .u64 (a : Int)) ∧ w' = wx) := hide fun wx hx => by
        have := plain_any _ a A64 wx (((unhide HU).below (unhide HB1)).below hx)
        rwa [← unhide HLA] at this
      have PB : Hid (∀ wx, Below w1.heap.size w1 wx → Calls Tryd.prog 69 #[.slice q lb cap2] wx fun e w' => e = .returned (.int .u64 (b : Int)) ∧ w' = wx) := hide fun wx hx => by
        have := plain_any _ b (by omega) wx (((unhide HV).below (unhide HB1)).below hx)
        rwa [← unhide HLB] at this
      have b0' : ((b : Int) == 0) = false := by rw [beq_eq_false_iff_ne]; omega
      have hq64 : a / b < 18446744073709551616 := Nat.lt_of_le_of_lt (Nat.div_le_self _ _) A64
      have hr64 : a % b < 18446744073709551616 := Nat.lt_of_le_of_lt (Nat.mod_le _ _) A64
      have W := hide (fun (wx : World) (x : Nat) (hx : x < 18446744073709551616) => words_any x hx wx)
      obtain ⟨Q, hQ⟩ : ∃ Q, Q = a / b := ⟨_, rfl⟩
      obtain ⟨R, hR⟩ : ∃ R, R = a % b := ⟨_, rfl⟩
      have t1 : ((a : Nat) : Int).tdiv (b : Int) = (Q : Int) := by rw [hQ]; rfl
      have t2 : ((a : Nat) : Int).tmod (b : Int) = (R : Int) := by rw [hR]; rfl
      rw [← hQ] at hq64
      rw [← hR] at hr64
      have wq : IntKind.u64.wrap (Q : Int) = (Q : Int) := by rw [IntKind.wrap_u64]; omega
      have wr : IntKind.u64.wrap (R : Int) = (R : Int) := by rw [IntKind.wrap_u64]; omega
      have HQ := hide hQ
      have HRR := hide hR
      clear hQ hR
      go_wp2_with fail
      refine (unhide PA _ (Below.refl _ _)).mono ?_
      rintro e w2 ⟨rfl, hw2⟩
      subst w2
      go_wp2_with fail
      refine (unhide PB _ (Below.refl _ _)).mono ?_
      rintro e w2 ⟨rfl, hw2⟩
      subst w2
      go_wp2_with fail
      go_region_with (
        go_at_call 67
        refine (unhide W _ _ (by assumption)).mono ?_
        rintro e wz ⟨vz, rfl, hvz, hbz⟩
        first
          | (have hvB := hvz
             replace hvA := hvA.below (below_via (by repeat (first | exact Below.refl _ _ | apply Below.drew)) hbz)
             clear hvz)
          | (have hvA := hvz
             clear hvz)
        replace hbz : Below w1.heap.size w1 wz := below_via (by repeat (first | assumption | exact Below.refl _ _ | apply Below.drew)) hbz)
      all_goals
        have HVA := hide hvA
        have HVB := hide hvB
        have HBZ := hide hbz
        clear hvA hvB hbz
        go_wp2
        refine bodyPost_ret (v := .tuple #[_, _]) (by simp [results, Tryd.results66, go_sem]; exact ⟨rfl, rfl⟩) rfl ?_
        rw [← unhide HQ, ← unhide HRR]
        exact ⟨_, _, rfl, (by first | exact (unhide HVA).below (by repeat (first | exact Below.refl _ _ | apply Below.drew)) | exact (unhide HVB).below (by repeat (first | exact Below.refl _ _ | apply Below.drew))), (by first | exact (unhide HVB).below (by repeat (first | exact Below.refl _ _ | apply Below.drew)) | exact (unhide HVA).below (by repeat (first | exact Below.refl _ _ | apply Below.drew))), below_via (unhide HB1) (by repeat (first | exact unhide HBZ | apply Below.drew))⟩
    · have hl2' : ¬ (la : Int) ≤ 2 := by omega
      obtain rfl : lb = 1 := by omega
      have B32 : b < 4294967296 := wd_len1 (unhide HLB).symm
      obtain ⟨b1, o1, e1, lb1, c1⟩ := WS.at ((unhide HV).below (unhide HB1)) 0 b (by rw [Bg.wd_one B32 b0]; rfl)
      cases e1
      have SM := hide (small_any _ a b w1 ((unhide HU).below (unhide HB1)) (by rw [← unhide HLA]; exact ha) (by omega) B32)
      rw [← unhide HLA] at SM
      have c2 : w1.cell? ⟨b1, o1, none⟩ = some (.int .u32 (b : Int)) := c1
      clear c1
      have hr32 : a % b < 4294967296 := Nat.lt_trans (Nat.mod_lt _ (by omega)) B32
      have TR : Hid (∀ wx, Calls Tryd.prog 68 #[.slice (some ⟨wx.heap.size, 0, none⟩) 1 1] (wx.alloc (.cells #[.int .u32 ((a % b : Nat) : Int)] 98)) fun e w' => ∃ u, e = .returned u ∧ WS w' u (Bg.wd (a % b)) ∧ Below wx.heap.size wx w') := hide fun wx => by
        have h := trim_any (.slice (some ⟨wx.heap.size, 0, none⟩) 1 1) [a % b] _ (WS.whole (RW.new wx [a % b]) (by intro y hy; simp at hy; omega) (Nat.le_refl _) (by simp))
        rw [show Bg.val [a % b] = a % b by simp [Bg.val]] at h
        refine Calls.mono h ?_
        rintro e w' ⟨u, rfl, hu, hb⟩
        exact ⟨u, rfl, hu, below_via (below_new _ _) hb⟩
      obtain ⟨R, hR⟩ : ∃ R, R = a % b := ⟨_, rfl⟩
      rw [← hR] at TR SM hr32
      have HRR := hide hR
      clear hR
      go_wp2_with fail
      refine (unhide SM).mono ?_
      rintro e w2 ⟨u2, rfl, hu2, hb2⟩
      have HU2 := hide hu2
      have HB2 := hide hb2
      clear hu2 hb2 c2
      go_wp2_with fail
      refine (unhide TR _).mono ?_
      rintro e w3 ⟨u3, rfl, hu3, hb3⟩
      have HU3 := hide hu3
      have HB3 := hide hb3
      clear hu3 hb3
      go_wp2
      refine bodyPost_ret (v := .tuple #[u2, u3]) (by simp [results, Tryd.results66, go_sem]) rfl ?_
      rw [← unhide HRR]
      exact ⟨_, _, rfl, (unhide HU2).below (unhide HB3), unhide HU3, below_via (unhide HB1) (below_via (unhide HB2) (unhide HB3))⟩
end Go.Proofs.YtibkemolmpcdcaaDoor

/- Division word by word: more plain facts. -/
namespace Go.Proofs.YtibkemolmpcdcaaDoor
namespace Bg

theorem top_div {n : Nat} (_ : n ≠ 0) {x : Nat} (hx : (wd n)[(wd n).length - 1]? = some x) : n / 4294967296 ^ ((wd n).length - 1) = x := by
  have hl := (List.getElem?_eq_some_iff.1 hx).1
  have h := val_word (wd_ok n) hx
  rw [val_none (wd_ok n) (i := (wd n).length - 1 + 1) (by omega), val_wd] at h
  omega
theorem len_ge {n k : Nat} (h : 4294967296 ^ k ≤ n) : k + 1 ≤ (wd n).length := by
  rcases Nat.lt_or_ge k (wd n).length with g | g
  · exact g
  · have h1 := wd_lt n
    have h2 : 4294967296 ^ (wd n).length ≤ 4294967296 ^ k := Nat.pow_le_pow_right (by omega) g
    omega
/-- a divisor whose greatest bit is set -/
theorem norm_facts {b x k s : Nat} (b0 : b ≠ 0) (hx : (wd b)[(wd b).length - 1]? = some x) (h1 : x < 2 ^ k) (h2 : 2 ^ k ≤ 2 * x) (hk : s + k = 32) :
    (wd (b * 2 ^ s)).length = (wd b).length ∧ ∃ t, (wd (b * 2 ^ s))[(wd b).length - 1]? = some t ∧ 2147483648 ≤ t ∧ t < 4294967296 ∧ b * 2 ^ s / 4294967296 ^ ((wd b).length - 1) = t := by
  have hl := (List.getElem?_eq_some_iff.1 hx).1
  have e := top_div b0 hx
  obtain ⟨l, hll⟩ : ∃ l, (wd b).length = l + 1 := ⟨(wd b).length - 1, by omega⟩
  rw [hll, Nat.add_sub_cancel] at e ⊢
  have hM : 0 < 4294967296 ^ l := Nat.pow_pos (by omega)
  have l1 : x * 4294967296 ^ l ≤ b := by rw [← e]; exact Nat.div_mul_le_self _ _
  have l2 : b < (x + 1) * 4294967296 ^ l := by rw [← e, Nat.mul_comm]; exact Nat.lt_mul_div_succ _ hM
  have p1 : 2 ^ k * 2 ^ s = 4294967296 := by rw [← Nat.pow_add, Nat.add_comm, hk]
  have q1 : 2147483648 ≤ x * 2 ^ s := by
    have : 2 ^ k * 2 ^ s ≤ 2 * x * 2 ^ s := Nat.mul_le_mul_right _ h2
    rw [p1, Nat.mul_assoc] at this
    omega
  have q2 : (x + 1) * 2 ^ s ≤ 4294967296 := by
    have : (x + 1) * 2 ^ s ≤ 2 ^ k * 2 ^ s := Nat.mul_le_mul_right _ h1
    omega
  have u1 : 2147483648 * 4294967296 ^ l ≤ b * 2 ^ s := by
    have h3 : x * 4294967296 ^ l * 2 ^ s ≤ b * 2 ^ s := Nat.mul_le_mul_right _ l1
    have h4 : 2147483648 * 4294967296 ^ l ≤ x * 2 ^ s * 4294967296 ^ l := Nat.mul_le_mul_right _ q1
    have e3 : x * 4294967296 ^ l * 2 ^ s = x * 2 ^ s * 4294967296 ^ l := by grind
    omega
  have u2 : b * 2 ^ s < 4294967296 * 4294967296 ^ l := by
    have h3 : b * 2 ^ s < (x + 1) * 4294967296 ^ l * 2 ^ s := Nat.mul_lt_mul_of_pos_right l2 (Nat.pow_pos (by omega))
    have h4 : (x + 1) * 2 ^ s * 4294967296 ^ l ≤ 4294967296 * 4294967296 ^ l := Nat.mul_le_mul_right _ q2
    have e3 : (x + 1) * 4294967296 ^ l * 2 ^ s = (x + 1) * 2 ^ s * 4294967296 ^ l := by grind
    omega
  have len : (wd (b * 2 ^ s)).length = l + 1 := by
    have g1 := wd_len_le (l + 1) (b * 2 ^ s) (by rw [Nat.pow_succ, Nat.mul_comm (4294967296 ^ l)]; exact u2)
    have g2 := len_ge (n := b * 2 ^ s) (k := l) (by omega)
    omega
  refine ⟨len, ?_⟩
  have hv0 : b * 2 ^ s ≠ 0 := by omega
  obtain ⟨t, ht, ht0, htb⟩ := wd_last hv0
  have e2 := top_div hv0 ht
  rw [len, Nat.add_sub_cancel] at ht e2
  refine ⟨t, ht, ?_, htb, e2⟩
  rw [← e2, Nat.le_div_iff_mul_le hM]
  exact u1
theorem left_len {a s : Nat} (hs : s < 32) : (wd (a * 2 ^ s)).length ≤ (wd a).length + 1 := by
  refine wd_len_le _ _ ?_
  have h1 := wd_lt a
  have h2 : 2 ^ s ≤ 2 ^ 31 := Nat.pow_le_pow_right (by omega) (by omega)
  have h3 : a * 2 ^ s ≤ a * 4294967296 := Nat.mul_le_mul_left _ (by omega)
  have h4 : a * 4294967296 < 4294967296 ^ (wd a).length * 4294967296 := Nat.mul_lt_mul_of_pos_right h1 (by omega)
  rw [Nat.pow_succ]
  omega
theorem start_lt {a b s m lb t : Nat} (hs : s < 32) (hm : (wd a).length + 1 = lb + m) (hlb : 1 ≤ lb) (ht : 2147483648 ≤ t) (h5 : b * 2 ^ s / 4294967296 ^ (lb - 1) = t) : a * 2 ^ s < b * 2 ^ s * 4294967296 ^ (m + 1) := by
  have h1 := wd_lt a
  have h2 : 2 ^ s ≤ 2 ^ 31 := Nat.pow_le_pow_right (by omega) (by omega)
  have h3 : a * 2 ^ s < 4294967296 ^ (wd a).length * 4294967296 := by
    have h4 : a * 2 ^ s ≤ a * 4294967296 := Nat.mul_le_mul_left _ (by omega)
    have h5 : a * 4294967296 < 4294967296 ^ (wd a).length * 4294967296 := Nat.mul_lt_mul_of_pos_right h1 (by omega)
    omega
  have hM : 0 < 4294967296 ^ (lb - 1) := Nat.pow_pos (by omega)
  have h6 : t * 4294967296 ^ (lb - 1) ≤ b * 2 ^ s := by rw [← h5]; exact Nat.div_mul_le_self _ _
  have h7 : 1 * 4294967296 ^ (lb - 1) ≤ t * 4294967296 ^ (lb - 1) := Nat.mul_le_mul_right _ (by omega)
  have h8 : 4294967296 ^ (lb - 1) * 4294967296 ^ (m + 1) ≤ b * 2 ^ s * 4294967296 ^ (m + 1) := Nat.mul_le_mul_right _ (by omega)
  rw [← Nat.pow_add, show lb - 1 + (m + 1) = (wd a).length + 1 by omega, Nat.pow_succ] at h8
  omega

/-- what the guessing of a digit knows, out of the words -/
theorem gs_of {us vs : List Nat} {j n top next u0 u1 u2 : Nat} (ou : Ok us) (ov : Ok vs) (hn : vs.length = n + 2) (h0 : us[j + n + 2]? = some u0) (h1 : us[j + n + 1]? = some u1) (h2 : us[j + n]? = some u2) (ht : vs[n + 1]? = some top) (hx : vs[n]? = some next) (ht0 : 0 < top) (hX : val us < val vs * (4294967296 * 4294967296 ^ j)) :
    Gs (val us / 4294967296 ^ j) (val vs) (u1 + 4294967296 * u0) top next u2 (4294967296 ^ n) := by
  have hB : 0 < 4294967296 ^ j := Nat.pow_pos (by omega)
  have hlt : val us / 4294967296 ^ j < val vs * 4294967296 := by
    rw [Nat.div_lt_iff_lt_mul hB, Nat.mul_assoc]; exact hX
  have hvl := val_lt ov
  rw [hn] at hvl
  have z : val us / 4294967296 ^ (j + n + 3) = 0 := by
    refine Nat.div_eq_of_lt (Nat.lt_trans hX ?_)
    have : val vs * (4294967296 * 4294967296 ^ j) < 4294967296 ^ (n + 2) * (4294967296 * 4294967296 ^ j) := Nat.mul_lt_mul_of_pos_right hvl (by omega)
    have e : 4294967296 ^ (n + 2) * (4294967296 * 4294967296 ^ j) = 4294967296 ^ (j + n + 3) := by rw [Nat.mul_comm 4294967296, ← Nat.pow_succ, ← Nat.pow_add]; congr 1; omega
    omega
  have w0 := val_word ou h0
  have w1 := val_word ou h1
  have w2 := val_word ou h2
  rw [z] at w0
  rw [w0] at w1
  rw [w1] at w2
  have x1 := val_word ov ht
  rw [val_none ov (i := n + 1 + 1) (by omega)] at x1
  have x2 := val_word ov hx
  rw [x1] at x2
  have dm := Nat.div_add_mod (val us / 4294967296 ^ j) (4294967296 ^ n)
  have dv := Nat.div_add_mod (val vs) (4294967296 ^ n)
  rw [Nat.div_div_eq_div_mul, ← Nat.pow_add, w2] at dm
  rw [x2] at dv
  refine ⟨⟨val us / 4294967296 ^ j % 4294967296 ^ n, val vs % 4294967296 ^ n, ?_, Nat.mod_lt _ (Nat.pow_pos (by omega)), ?_, Nat.mod_lt _ (Nat.pow_pos (by omega))⟩, ht0, ov.at hx, hlt⟩
  · rw [← dm]
    grind
  · rw [← dv]
    grind
theorem keep_lt {us ts : List Nat} {i : Nat} (ou : Ok us) (ot : Ok ts) (hl : ts.length = us.length) (hi : i ≤ us.length) (h : ∀ l, i ≤ l → ts[l]? = us[l]?) (hx : val us < 4294967296 ^ i) : val ts < 4294967296 ^ i := by
  have e : ts.drop i = us.drop i := by
    apply List.ext_getElem?
    intro n
    rw [List.getElem?_drop, List.getElem?_drop]
    exact h _ (by omega)
  have h1 := (val_div us ou i hi).1
  rw [Nat.div_eq_of_lt hx] at h1
  rw [val_take_drop ts i (by omega), e, ← h1, Nat.mul_zero, Nat.add_zero]
  have := val_lt (ot.take i)
  rwa [List.length_take, Nat.min_eq_left (by omega)] at this
theorem borrow2 {x c y e1 e2 : Nat} (hx : x < 4294967296) (hc : c < 4294967296) (hy : y ≤ 1) (h1 : e1 = (x + 18446744073709551616 - c) % 18446744073709551616) (h2 : e2 = (e1 + 18446744073709551616 - y) % 18446744073709551616) : x + e2 / 9223372036854775808 * 4294967296 = e2 % 4294967296 + c + y ∧ e2 / 9223372036854775808 ≤ 1 := by omega
theorem ms_step {X Y Y2 M c d c2 d2 x wd low p g v y Bi Bj : Nat} (h : X + (c + d) * M = Y + g * v * Bj) (hs : Y2 + M * x = Y + M * wd) (h1 : c2 * 4294967296 + low = c + p) (h2 : x + d2 * 4294967296 = wd + low + d) (hp : p = g * y) (hM : M = Bi * Bj) : X + (c2 + d2) * (M * 4294967296) = Y2 + g * (v + Bi * y) * Bj := by
  have e1 : (c2 + d2) * (M * 4294967296) + M * x = M * (c + p + (wd + d)) := by
    have : c2 * 4294967296 + (x + d2 * 4294967296) = c + p + (wd + d) := by omega
    rw [← this]
    grind
  have e2 : M * (c + p + (wd + d)) = (c + d) * M + M * wd + M * p := by grind
  have e3 : g * (v + Bi * y) * Bj = g * v * Bj + M * p := by rw [hp, hM]; grind
  omega
theorem ab_step {X Y Y2 M c x T v y Bi Bj : Nat} (h : Y + c * M = X + v * Bj) (hs : Y2 + M * x = Y + M * (T % 4294967296)) (hT : T = c + (x + y)) (hM : M = Bi * Bj) : Y2 + T / 4294967296 * (M * 4294967296) = X + (v + Bi * y) * Bj := by
  have e := carry M T
  have e2 : M * T = c * M + M * x + M * y := by rw [hT]; grind
  have e3 : (v + Bi * y) * Bj = v * Bj + M * y := by rw [hM]; grind
  omega
/-- what a round of the division leaves -/
theorem k_fin {A V X X3 q0 j : Nat} {qs : List Nat} (hq : j < qs.length) (hV : 0 < V) (hE : A = val (qs.drop (j + 1)) * V * 4294967296 ^ (j + 1) + X) (h0 : q0 = X / 4294967296 ^ j / V) (h3 : X3 = X - q0 * V * 4294967296 ^ j) :
    A = val ((qs.set j q0).drop j) * V * 4294967296 ^ j + X3 ∧ X3 < V * 4294967296 ^ j := by
  rw [Nat.pow_succ, Nat.mul_comm (4294967296 ^ j)] at hE
  have h := k_step (Nat.pow_pos (by omega)) hE h0 hV
  rw [h3, drop_set hq, val]
  refine ⟨?_, h.2.2⟩
  have e := h.2.1
  rw [show val (qs.drop (j + 1)) * 4294967296 + q0 = q0 + 4294967296 * val (qs.drop (j + 1)) by omega] at e
  exact e
theorem k_lt {V lb j : Nat} {us : List Nat} (hV : V < 4294967296 ^ lb) (hX : val us < V * 4294967296 ^ (j + 1)) : val us < 4294967296 ^ (j + lb + 1) ∧ V * 4294967296 ^ j ≤ 4294967296 ^ (lb + j) := by
  constructor
  · have h : V * 4294967296 ^ (j + 1) ≤ 4294967296 ^ lb * 4294967296 ^ (j + 1) := Nat.mul_le_mul_right _ (Nat.le_of_lt hV)
    rw [← Nat.pow_add, show lb + (j + 1) = j + lb + 1 by omega] at h
    omega
  · rw [Nat.pow_add]
    exact Nat.mul_le_mul_right _ (Nat.le_of_lt hV)
end Bg
end Go.Proofs.YtibkemolmpcdcaaDoor
