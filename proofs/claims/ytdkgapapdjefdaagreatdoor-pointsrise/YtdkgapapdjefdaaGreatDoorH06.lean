/- Walks: div, word by word. -/
import Derived.Test.YtdkgapapdjefdaaGreatDoorH05
import Derived.Test.YtdkgapapdjefdaaGreatDoorH02
import Derived.Deep.CutBlock
import Derived.Deep.CutRange
import Derived.Deep.LoopGhost
import Derived.Test.YtdkgapapdjefdaaGreatDoorH04
import Derived.Deep.Cut
namespace Go.Proofs.YtdkgapapdjefdaaGreatDoor
open Go.RowKit

theorem length_any (v : Value) (b : Nat) (w : World) (hv : WS w v (Bg.wd b)) (hb : (Bg.wd b).length ≤ 100000) (b0 : b ≠ 0) :
    Calls Tryz.prog 171 #[v] w fun e w' => ∃ k x, e = .returned (.int .i64 ((((Bg.wd b).length - 1) * 32 + k : Nat) : Int)) ∧ 0 < k ∧ k ≤ 32 ∧ x < 2 ^ k ∧ 2 ^ k ≤ 2 * x ∧ (Bg.wd b)[(Bg.wd b).length - 1]? = some x ∧ w' = w := by
  obtain ⟨x, hx, hx0, hxb⟩ := Bg.wd_last b0
  obtain ⟨p, cap, rfl, _⟩ := id hv
  obtain ⟨b1, o1, rfl, _, c1⟩ := WS.at hv _ x hx
  have hl := wd_pos_len b0
  obtain ⟨n, hn⟩ : ∃ n, (Bg.wd b).length = n + 1 := ⟨(Bg.wd b).length - 1, by omega⟩
  rw [hn, Nat.add_sub_cancel] at hx c1 ⊢
  refine (len_go b1 o1 cap n x w (by omega) c1 hxb (by omega)).mono ?_
  rintro e w' ⟨k, rfl, h1, h2, h3, h4, rfl⟩
  exact ⟨k, x, rfl, h1, h2, h3, h4, hx, rfl⟩

theorem copy_words (us : List Nat) (n : Nat) (q : Option Addr) (cap g dcap : Nat) (w : World) (hu : WS w (.slice q us.length cap) us) (hg : RW w g (List.replicate n 0)) (hne : us ≠ []) (hl : us.length ≤ n) :
    ∃ w', (Builtin.copy_ #[132, 132] 3 #[.slice (some ⟨g, 0, none⟩) n dcap, .slice q us.length cap]).run Tryz.prog w = .ok (goInt us.length) w' ∧ RW w' g (us ++ List.replicate (n - us.length) 0) ∧ Below g w w' := by
  have hsz : (Tryz.prog.info? 190).map (·.size) = some 1 := by
    obtain ⟨i, hi, _, h1, _⟩ := info_u32
    rw [hi, Option.map_some, h1]
  obtain ⟨x0, hx0⟩ : ∃ x0, us[0]? = some x0 := ⟨_, List.getElem?_eq_getElem (List.length_pos_iff.2 hne)⟩
  obtain ⟨b5, o5, rfl, -, -⟩ := WS.at hu 0 x0 hx0
  have h := run_copy_row (P := Tryz.prog) w 132 132 3 190 g 0 n dcap ⟨b5, o5, none⟩ us.length cap _ _ (us.map ic) Tryz.underlying132 hsz hg (by rw [List.length_map]; exact (Nat.min_eq_left hl).symm) (fun j v hj => by
    rw [List.getElem?_map] at hj
    obtain ⟨y, hy, rfl⟩ := Option.map_eq_some_iff.1 hj
    obtain ⟨b6, o6, e6, -, c6⟩ := WS.at hu j y hy
    cases e6
    rw [Addr.add_lit]
    exact c6) (by simp; omega) (fun v hv => by
    obtain ⟨x, _, rfl⟩ := List.mem_map.1 hv
    rfl)
  rw [List.length_map] at h
  refine ⟨_, h, ?_, below_setRow (Below.refl _ _) (Nat.le_refl _) _⟩
  have h2 := setRow_heap w g _ (((List.replicate n 0).map ic).toArray.toList.take 0 ++ us.map ic ++ ((List.replicate n 0).map ic).toArray.toList.drop (0 + us.length)).toArray 190 _ hg
  unfold RW
  rw [h2]
  simp

set_option maxRecDepth 100000 in
set_option maxHeartbeats 40000000 in
theorem div_long (u v : Value) (a b : Nat) (w : World) (hu : WS w u (Bg.wd a)) (hv : WS w v (Bg.wd b)) (ha : (Bg.wd a).length ≤ 100000) (hb : (Bg.wd b).length ≤ 100000) (hab : b ≤ a) (h3 : 3 ≤ (Bg.wd a).length) (h2 : 2 ≤ (Bg.wd b).length) :
    Calls Tryz.prog 157 #[u, v] w fun e w' => ∃ p q, e = .returned (.tuple #[p, q]) ∧ WS w' p (Bg.wd (a / b)) ∧ WS w' q (Bg.wd (a % b)) ∧ Below w.heap.size w w' := by
  obtain ⟨p, cap, rfl, -⟩ := id hu
  obtain ⟨q, cap2, rfl, -⟩ := id hv
  have b0 : b ≠ 0 := fun e => by rw [e, Bg.wd_zero] at h2; simp at h2
  have a0 : a ≠ 0 := by omega
  have CM := hide (cmp_any _ _ a b w hu hv)
  have LN := hide (fun (wx : World) (hx : Below w.heap.size w wx) => length_any _ b wx (hv.below hx) hb b0)
  have LB := hide (fun (wx : World) (hx : Below w.heap.size w wx) (s : Nat) (hs : s < 32) => left_any _ b s wx (hv.below hx) hb b0 hs)
  have LA := hide (fun (wx : World) (hx : Below w.heap.size w wx) (s : Nat) (hs : s < 32) => left_any _ a s wx (hu.below hx) ha a0 hs)
  have g1 : (((Bg.wd b).length : Int) == 0) = false := by rw [beq_eq_false_iff_ne]; omega
  have g2 : (((Bg.wd b).length : Int) == 1) = false := by rw [beq_eq_false_iff_ne]; omega
  have g3 : ¬ ((Bg.wd a).length : Int) ≤ 2 := by omega
  obtain ⟨la, hla⟩ : ∃ la, la = (Bg.wd a).length := ⟨_, rfl⟩
  obtain ⟨lb, hlb⟩ : ∃ lb, lb = (Bg.wd b).length := ⟨_, rfl⟩
  have HLA := hide hla
  have HLB := hide hlb
  have HLL : Hid (lb ≤ la) := hide (by rw [hla, hlb]; exact Bg.wd_mono hab)
  rw [← hla] at ha h3 g3 CM LA ⊢
  rw [← hlb] at hb h2 g1 g2 CM LB LN ⊢
  clear hu hv hla hlb
  have hcm : ¬ Bg.cmpN a b < 0 := by
    rcases Nat.eq_or_lt_of_le hab with e | e
    · rw [Bg.cmpN_eq e.symm]; omega
    · rw [Bg.cmpN_gt e]; omega
  generalize Bg.cmpN a b = cm at *
  go_enter Tryz.func157, Tryz.ntmps157
  go_wp2_with fail
  refine (unhide CM).mono ?_
  rintro e w1 ⟨rfl, hb1⟩
  have HB1 := hide hb1
  clear hb1 CM
  go_wp2_with fail
  refine (unhide LN _ (unhide HB1)).mono ?_
  rintro e w2 ⟨k, x, rfl, hk0, hk32, hx1, hx2, hxx, hw2⟩
  subst w2
  obtain ⟨s, hs⟩ : ∃ s, s + k = 32 := ⟨32 - k, by omega⟩
  have hs32 : s < 32 := by omega
  rw [unhide HLB] at hxx
  obtain ⟨n1, t, n2, n3, n4, n5⟩ := Bg.norm_facts b0 hxx hx1 hx2 hs
  rw [← unhide HLB] at n1 n2 n5
  have hsc : (32 : Int) - (((lb - 1 : Nat) : Int) * 32 + (k : Int) - 1) % 32 - 1 = (s : Int) := by omega
  clear hx1 hx2 hxx LN
  go_wp2_with fail
  refine (unhide LB _ (unhide HB1) s hs32).mono ?_
  rintro e w2 ⟨v2, rfl, hv2, hb2⟩
  obtain ⟨q2, cap3, rfl, -⟩ := id hv2
  rw [n1]
  have HV2 := hide hv2
  have HB2 := hide (below_via (unhide HB1) hb2)
  have hwu := (unhide HB2).size
  clear hv2 hb2 hsc HB1 LB
  have hmk := mkw w2 (la + 2) ((la : Int) + 2) (by omega) (by omega)
  have RU := hide (RW.made w2 (la + 2))
  have BU := hide (below_new w2 (.cells (Array.replicate (la + 2) (ic 0)) 190))
  go_wp2_with fail
  refine (unhide LA _ (below_via (unhide HB2) (unhide BU)) s hs32).mono ?_
  rintro e w3 ⟨v3, rfl, hv3, hb3⟩
  obtain ⟨q3, cap4, rfl, -⟩ := id hv3
  have HV3 := hide hv3
  have HB3 := hide (below_via (unhide BU) hb3)
  have RU3 := hide ((unhide RU).keep hb3 (unhide RU).low)
  have hlA : (Bg.wd (a * 2 ^ s)).length ≤ la + 1 := by rw [unhide HLA]; exact Bg.left_len hs32
  have hA0 : Bg.wd (a * 2 ^ s) ≠ [] := fun e => by
    rcases Nat.mul_eq_zero.1 (Bg.wd_nil.1 e) with e | e
    · exact a0 e
    · exact absurd e (Nat.pos_iff_ne_zero.1 (Nat.pow_pos (Nat.zero_lt_succ _)))
  obtain ⟨w4, hcr, hr4, hb4⟩ := copy_words (Bg.wd (a * 2 ^ s)) (la + 2) q3 cap4 w2.heap.size (la + 2) w3 hv3 (unhide RU3) hA0 (by omega)
  have HR4 := hide hr4
  have HB4 := hide (below_via (unhide HB2) ((unhide HB3).trans hb4))
  have HV4 := hide ((unhide HV2).below ((unhide HB3).trans hb4))
  clear hv3 hb3 hmk RU BU LA hr4 hb4 RU3 HB3 HB2 HV3
  obtain ⟨m, hm⟩ : ∃ m, la + 1 = lb + m := ⟨la + 1 - lb, by have := unhide HLL; omega⟩
  have hmk := mkw w4 (m + 1) ((m : Int) + 1) (by omega) (by omega)
  have hmi : (la : Int) + 2 - (lb : Int) - 1 = (m : Int) := by omega
  have RQ := hide (RW.made w4 (m + 1))
  have BQ := hide (below_new w4 (.cells (Array.replicate (m + 1) (ic 0)) 190))
  obtain ⟨nx, hnx⟩ : ∃ nx, (Bg.wd (b * 2 ^ s))[lb - 2]? = some nx := ⟨_, List.getElem?_eq_getElem (by omega)⟩
  obtain ⟨bv, ov, e7, lv0, -⟩ := WS.at (unhide HV2) (lb - 1) t n2
  subst e7
  have lv : bv < w4.heap.size := Nat.lt_trans lv0 (unhide HR4).low
  have cv1 := (WS.at (unhide HV4) (lb - 1) t n2)
  have cv2 := (WS.at (unhide HV4) (lb - 2) nx hnx)
  obtain ⟨_, _, e8, -, cv1⟩ := cv1
  cases e8
  obtain ⟨_, _, e8, -, cv2⟩ := cv2
  cases e8
  have hnb : nx < 4294967296 := (Bg.wd_ok _).at hnx
  have dv1 := ((unhide BQ).cell (p := ⟨bv, ov + (lb - 1), none⟩) lv).trans cv1
  have dv2 := ((unhide BQ).cell (p := ⟨bv, ov + (lb - 2), none⟩) lv).trans cv2
  have i1 : (lb : Int) - 1 = ((lb - 1 : Nat) : Int) := by omega
  have i2 : (lb : Int) - 2 = ((lb - 2 : Nat) : Int) := by omega
  have i3 : (lb : Int) - 1 < (lb : Int) := by omega
  have i4 : (lb : Int) - 2 < (lb : Int) := by omega
  have i5 : (0 : Int) ≤ (lb : Int) - 2 := by omega
  have i6 : (0 : Int) ≤ (lb : Int) - 1 := by omega
  have i7 : ((lb : Int) - 1).toNat = lb - 1 := by omega
  have i8 : ((lb : Int) - 2).toNat = lb - 2 := by omega
  clear i1 i2
  go_wp2_with fail
  have RU5 := hide ((unhide HR4).keep (unhide BQ) (unhide HR4).low)
  have HB5 := hide (below_via (unhide HB4) (unhide BQ))
  have HV5 := hide ((unhide HV4).below (unhide BQ))
  have hqs : w4.heap.size < (w4.alloc (.cells (Array.replicate (m + 1) (ic 0)) 190)).heap.size := by simp
  obtain ⟨gq, hgq⟩ : ∃ gq, gq = w4.heap.size := ⟨_, rfl⟩
  obtain ⟨gu, hgu⟩ : ∃ gu, gu = w2.heap.size := ⟨_, rfl⟩
  rw [← hgu] at lv0
  have hguq : gu < gq := by rw [hgu, hgq]; exact (unhide HR4).low
  have hwg : w.heap.size ≤ gu := by rw [hgu]; exact hwu
  rw [← hgq] at RQ hqs ⊢
  rw [← hgu] at RU5 ⊢
  clear hmk cv1 cv2 hcr BQ HB4 HV4 HR4 hgq
  generalize w4.alloc (.cells (Array.replicate (m + 1) (ic 0)) 190) = w5 at *
  clear hgu
  have CV : Hid (∀ i x : Nat, (Bg.wd (b * 2 ^ s))[i]? = some x → w5.cell? ⟨bv, ov + i, none⟩ = some (.int .u32 (x : Int))) := hide fun i x hx => by
    obtain ⟨_, _, e8, -, c8⟩ := WS.at (unhide HV5) i x hx
    cases e8
    exact c8
  have HA0 : Hid (Bg.val (Bg.wd (a * 2 ^ s) ++ List.replicate (la + 2 - (Bg.wd (a * 2 ^ s)).length) 0) = a * 2 ^ s) := hide (by rw [Bg.val_app, Bg.val_zeros, Bg.val_wd]; simp)
  have HOA : Hid (Bg.Ok (Bg.wd (a * 2 ^ s) ++ List.replicate (la + 2 - (Bg.wd (a * 2 ^ s)).length) 0)) := hide (fun x hx => by
    rcases List.mem_append.1 hx with hx | hx
    · exact Bg.wd_ok _ x hx
    · exact Bg.Ok.zeros _ x hx)
  have HLA0 : Hid ((Bg.wd (a * 2 ^ s) ++ List.replicate (la + 2 - (Bg.wd (a * 2 ^ s)).length) 0).length = la + 2) := hide (by simp; omega)
  have HF : Hid (a * 2 ^ s < b * 2 ^ s * 4294967296 ^ (m + 1)) := hide (Bg.start_lt hs32 (by rw [unhide HLA] at hm; exact hm) (by omega) n3 n5)
  have HQ : Hid (a * 2 ^ s / (b * 2 ^ s) = a / b) := hide (Nat.mul_div_mul_right _ _ (Nat.pow_pos (by omega)))
  have HRm : Hid (a * 2 ^ s % (b * 2 ^ s) / 2 ^ s = a % b) := hide (by rw [Nat.mul_mod_mul_right, Nat.mul_div_cancel _ (Nat.pow_pos (by omega))])
  have OV := hide (Bg.wd_ok (b * 2 ^ s))
  have VV := hide (Bg.val_wd (b * 2 ^ s))
  have HT := hide n2
  have HN := hide hnx
  have HLV := hide n1
  have V0 : 0 < b * 2 ^ s := Nat.mul_pos (by omega) (Nat.pow_pos (by omega))
  have hVlt : Hid (b * 2 ^ s < 4294967296 ^ lb) := hide (by have := Bg.wd_lt (b * 2 ^ s); rwa [n1] at this)
  clear n1 n2 n5 hnx HV5 hA0 hlA HV2 HLA HLB
  generalize Bg.wd (a * 2 ^ s) ++ List.replicate (la + 2 - (Bg.wd (a * 2 ^ s)).length) 0 = us0 at *
  generalize Bg.wd (b * 2 ^ s) = vs at *
  generalize a * 2 ^ s = A at *
  generalize b * 2 ^ s = V at *
  go_region
  all_goals
    go_wp2_with fail
  clear dv1 dv2 i3 i4 i5 i6 i7 i8
  go_loopw [18] (fun jv wr => ∃ (k : Nat) (us qs : List Nat), k ≤ m + 1 ∧ jv = .int .i64 ((k : Int) - 1) ∧ us.length = la + 2 ∧ qs.length = m + 1 ∧ Hid (Bg.Ok us) ∧ Hid (Bg.Ok qs) ∧ Hid (∀ j x, j < k → qs[j]? = some x → x = 0) ∧ Hid (A = Bg.val (qs.drop k) * V * 4294967296 ^ k + Bg.val us) ∧ Hid (Bg.val us < V * 4294967296 ^ k) ∧ Hid (RW wr gu us) ∧ Hid (RW wr gq qs) ∧ Hid (Below gu w5 wr)) (fun jv _ => (intOf jv + 1).toNat)
  case atStart => exact ⟨m + 1, us0, List.replicate (m + 1) 0, Nat.le_refl _, by go_num, unhide HLA0, by simp, HOA, hide (Bg.Ok.zeros _), hide (fun j x _ => Bg.zero_rep _ j x (Nat.zero_le _)), hide (by rw [List.drop_of_length_le (by simp), unhide HA0]; simp [Bg.val]), hide (by rw [unhide HA0]; exact unhide HF), RU5, RQ, hide (Below.refl _ _).drew⟩
  case round =>
    clear HF HA0 HOA HLA0 RU5 RQ
    obtain ⟨k, us, qs, hkm, rfl, hul, hql, HOU, HOQ, HZ, HE, HX, HRU, HRQ, HBW⟩ := hrel
    rcases Nat.eq_zero_or_pos k with h0 | h0
    · subst h0
      have HD : Hid (Bg.val qs = A / V ∧ Bg.val us = A % V) := hide (by
        have h := unhide HE
        have hx := unhide HX
        rw [List.drop_zero, Nat.pow_zero, Nat.mul_one] at h
        rw [Nat.pow_zero, Nat.mul_one] at hx
        rw [h, Nat.mul_comm, Nat.mul_add_div V0, Nat.div_eq_of_lt hx, Nat.mul_add_mod, Nat.mod_eq_of_lt hx]
        exact ⟨(Nat.add_zero _).symm, rfl⟩)
      have hgub : gq < wr.heap.size := (unhide HRQ).low
      have TQ : Hid (∀ wx, Below wr.heap.size wr wx → Calls Tryz.prog 159 #[.slice (some ⟨gq, 0, none⟩) (m + 1) (m + 1)] wx fun e w' => ∃ u, e = .returned u ∧ WS w' u (Bg.wd (a / b)) ∧ Below wx.heap.size wx w') := hide fun wx hx => by
        have t := trim_any (.slice (some ⟨gq, 0, none⟩) (m + 1) (m + 1)) qs wx (by
          have := WS.whole ((unhide HRQ).keep hx (unhide HRQ).low) (unhide HOQ) (cap := m + 1) (by omega) (by omega)
          rwa [hql] at this)
        rwa [(unhide HD).1, unhide HQ] at t
      have TU : Hid (∀ wx, Below wr.heap.size wr wx → Calls Tryz.prog 159 #[.slice (some ⟨gu, 0, none⟩) (la + 2) (la + 2)] wx fun e w' => ∃ u, e = .returned u ∧ WS w' u (Bg.wd (A % V)) ∧ Below wx.heap.size wx w') := hide fun wx hx => by
        have t := trim_any (.slice (some ⟨gu, 0, none⟩) (la + 2) (la + 2)) us wx (by
          have := WS.whole ((unhide HRU).keep hx (unhide HRU).low) (unhide HOU) (cap := la + 2) (by omega) (by omega)
          rwa [hul] at this)
        rwa [(unhide HD).2] at t
      have RI : Hid (∀ wx u, WS wx u (Bg.wd (A % V)) → Calls Tryz.prog 173 #[u, .int .u64 (s : Int)] wx fun e w' => ∃ u, e = .returned u ∧ WS w' u (Bg.wd (a % b)) ∧ Below wx.heap.size wx w') := hide fun wx u hu => by
        have t := right_any u (A % V) s wx hu (by
          have h1 := Nat.mod_lt A V0
          have h2 := Bg.wd_len_le lb (A % V) (Nat.lt_trans h1 (unhide hVlt))
          omega) hs32
        rwa [unhide HRm] at t
      have HW : Hid (Below w.heap.size w wr) := hide ((unhide HB5).trans ((unhide HBW).mono hwg))
      clear HE HX HZ HRU HRQ HOU HOQ HD
      go_wp2_with fail
      refine (unhide TQ _ (Below.refl _ _)).mono ?_
      rintro e x1 ⟨y1, rfl, hy1, hx1⟩
      have HY1 := hide hy1
      have HX1 := hide hx1
      clear hy1 hx1
      go_wp2_with fail
      refine (unhide TU _ (unhide HX1)).mono ?_
      rintro e x2 ⟨y2, rfl, hy2, hx2⟩
      have HY2 := hide hy2
      have HX2 := hide hx2
      clear hy2 hx2
      go_wp2_with fail
      refine (unhide RI _ _ (unhide HY2)).mono ?_
      rintro e x3 ⟨y3, rfl, hy3, hx3⟩
      have HY3 := hide hy3
      have HX3 := hide hx3
      clear hy3 hx3
      go_wp2
      refine bodyPost_ret (v := .tuple #[y1, y3]) (by simp [results, Tryz.results157, go_sem]) rfl ?_
      exact ⟨_, _, rfl, (unhide HY1).below (below_via (unhide HX2) (unhide HX3)), unhide HY3, below_via (unhide HW) (below_via (unhide HX1) (below_via (unhide HX2) (unhide HX3)))⟩
    · obtain ⟨j, rfl⟩ : ∃ j, k = j + 1 := ⟨k - 1, by omega⟩
      have hj1 : ((j + 1 : Nat) : Int) - 1 = (j : Int) := by omega
      rw [hj1]
      clear hj1
      obtain ⟨u0, hu0⟩ : ∃ u0, us[j + lb]? = some u0 := ⟨_, List.getElem?_eq_getElem (by omega)⟩
      obtain ⟨u1, hu1⟩ : ∃ u1, us[j + lb - 1]? = some u1 := ⟨_, List.getElem?_eq_getElem (by omega)⟩
      obtain ⟨u2, hu2⟩ : ∃ u2, us[j + lb - 2]? = some u2 := ⟨_, List.getElem?_eq_getElem (by omega)⟩
      have d0 := (unhide HRU).cell hu0
      have d1 := (unhide HRU).cell hu1
      have d2 := (unhide HRU).cell hu2
      have b00 := (unhide HOU).at hu0
      have b01 := (unhide HOU).at hu1
      have b02 := (unhide HOU).at hu2
      have jj : (0 : Int) ≤ (j : Int) := by omega
      have k1 : (j : Int) + (lb : Int) < (la : Int) + 2 := by omega
      have k2 : (j : Int) + (lb : Int) - 1 < (la : Int) + 2 := by omega
      have k3 : (j : Int) + (lb : Int) - 2 < (la : Int) + 2 := by omega
      have k4 : (0 : Int) ≤ (j : Int) + (lb : Int) - 1 := by omega
      have k5 : (0 : Int) ≤ (j : Int) + (lb : Int) - 2 := by omega
      have k6 : ((j : Int) + (lb : Int) - 1).toNat = j + lb - 1 := by omega
      have k7 : ((j : Int) + (lb : Int) - 2).toNat = j + lb - 2 := by omega
      have HOR := hide (or_shift2 b01 b00)
      obtain ⟨hh, hhh⟩ : ∃ hh, hh = u1 + 4294967296 * u0 := ⟨_, rfl⟩
      rw [← hhh] at HOR
      have hor := unhide HOR
      have hhb : hh < 18446744073709551616 := by omega
      have t1 : ((hh : Nat) : Int).tdiv (t : Int) = ((hh / t : Nat) : Int) := rfl
      have t2 : ((hh : Nat) : Int).tmod (t : Int) = ((hh % t : Nat) : Int) := rfl
      have tz : ((t : Int) == 0) = false := by rw [beq_eq_false_iff_ne]; omega
      have HG : Hid (Bg.Gs (Bg.val us / 4294967296 ^ j) (Bg.val vs) hh t nx u2 (4294967296 ^ (lb - 2))) := hide (by
        rw [hhh]
        exact Bg.gs_of (unhide HOU) (unhide OV) (by rw [unhide HLV]; omega) (by rw [show j + (lb - 2) + 2 = j + lb by omega]; exact hu0) (by rw [show j + (lb - 2) + 1 = j + lb - 1 by omega]; exact hu1) (by rw [show j + (lb - 2) = j + lb - 2 by omega]; exact hu2) (by rw [show lb - 2 + 1 = lb - 1 by omega]; exact unhide HT) (unhide HN) (by omega) (by have := unhide HX; rw [Nat.pow_succ, Nat.mul_comm (4294967296 ^ j)] at this; rw [unhide VV]; exact this))
      have HU0 := hide hu0
      have hq32 : hh / t < 18446744073709551616 := Nat.lt_of_le_of_lt (Nat.div_le_self _ _) hhb
      have hr32 : hh % t < t := Nat.mod_lt _ (by omega)
      have HDM : Hid (hh / t * t + hh % t = hh) := hide (by rw [Nat.mul_comm]; exact Nat.div_add_mod _ _)
      have HST := hide ((unhide HG).start b02)
      obtain ⟨g0, hg0⟩ : ∃ g0, g0 = hh / t := ⟨_, rfl⟩
      obtain ⟨r0, hr0⟩ : ∃ r0, r0 = hh % t := ⟨_, rfl⟩
      rw [← hg0] at t1 hq32 HDM HST
      rw [← hr0] at t2 hr32 HDM
      have wg : IntKind.u64.wrap (g0 : Int) = (g0 : Int) := by rw [IntKind.wrap_u64]; omega
      have wr0 : IntKind.u64.wrap (r0 : Int) = (r0 : Int) := by rw [IntKind.wrap_u64]; omega
      rw [unhide VV] at HST
      obtain ⟨q0, hq0⟩ : ∃ q0, q0 = Bg.val us / 4294967296 ^ j / V := ⟨_, rfl⟩
      rw [← hq0] at HST
      have HQ0 := hide hq0
      clear hu0 hu1 hu2 hhh hg0 hr0 HOR hq0
      go_wp2_with fail
      go_region
      all_goals
        go_wp2_with fail
      go_region
      all_goals
        go_upto_block 2 with fail
      clear d0 d1 k1 k2 k4 k6 hor t1 t2 tz wg wr0 hhb
      go_cut [20, 21] from 109 to 266 (fun gv _ wc => ∃ g : Nat, gv = .int .u64 (g : Int) ∧ g ≤ 4294967295 ∧ Hid (q0 ≤ g) ∧ Hid (g ≤ q0 + 1) ∧ Hid (RW wc gu us) ∧ Hid (RW wc gq qs) ∧ Hid (Below gu w5 wc))
      case first =>
        go_wp2_with fail
        go_loopw [20, 21] (fun gv rv wi => ∃ g r : Nat, gv = .int .u64 (g : Int) ∧ rv = .int .u64 (r : Int) ∧ g < 18446744073709551616 ∧ r ≤ 4294967295 ∧ Hid (g * t + r = hh) ∧ Hid (q0 ≤ g) ∧ wi = wr.drew.drew) (fun gv _ _ => (intOf gv).toNat)
        case atStart => exact ⟨g0, r0, rfl, rfl, hq32, by omega, HDM, HST, by rfl⟩
        case round =>
          obtain ⟨g, r, rfl, rfl, hgb, hrb, HD, HL, rfl⟩ := hrel
          by_cases hA : 4294967295 < g
          · have hA' : (4294967295 : Int) < (g : Int) := by omega
            have HDn : Hid (q0 ≤ g - 1 ∧ 0 < g ∧ (g - 1) * t + (r + t) = hh) := hide (by
              have := (unhide HG).down (unhide HD) (.inl hA)
              rw [unhide VV, ← unhide HQ0] at this
              exact this)
            have hg0 := (unhide HDn).2.1
            have hgi : (g : Int) - 1 = ((g - 1 : Nat) : Int) := by omega
            by_cases hbr : 4294967295 < r + t
            · have hbr' : (4294967295 : Int) < (r : Int) + (t : Int) := by omega
              clear hgi
              go_wp2_with fail
              go_meet
              case rel =>
                have hst := (unhide HG).stop (g := g - 1) (r := r + t) (unhide HDn).2.2 (.inr hbr)
                rw [unhide VV, ← unhide HQ0] at hst
                exact ⟨g - 1, by congr 1; omega, hst.1, hide (unhide HDn).1, hide hst.2, hide (unhide HRU).drew.drew, hide (unhide HRQ).drew.drew, hide (unhide HBW).drew.drew⟩
            · have hbr' : ¬ (4294967295 : Int) < (r : Int) + (t : Int) := by omega
              clear hgi
              go_wp2
              go_roundw
              case rel => exact ⟨g - 1, r + t, by congr 1; omega, by go_num, by omega, by omega, hide (unhide HDn).2.2, hide (unhide HDn).1, trivial⟩
              case measure => simp [intOf]; omega
          · have hA' : ¬ (4294967295 : Int) < (g : Int) := by omega
            have hgn : g * nx < 18446744073709551616 := by
              have : g * nx ≤ 4294967295 * 4294967295 := Nat.mul_le_mul (by omega) (by omega)
              omega
            obtain ⟨P, hP⟩ : ∃ P, P = g * nx := ⟨_, rfl⟩
            have hp : (g : Int) * (nx : Int) = (P : Int) := by rw [hP, Int.natCast_mul]
            rw [← hP] at hgn
            have HP := hide hP
            have hor2 := or_shift2 b02 (show r < 4294967296 by omega)
            obtain ⟨E, hE⟩ : ∃ E, E = u2 + 4294967296 * r := ⟨_, rfl⟩
            rw [← hE] at hor2
            have HEE := hide hE
            clear hP hE
            by_cases hc : E < P
            · have hc' : (E : Int) < (P : Int) := by omega
              have HDn : Hid (q0 ≤ g - 1 ∧ 0 < g ∧ (g - 1) * t + (r + t) = hh) := hide (by
                have := (unhide HG).down (unhide HD) (.inr (by rw [← unhide HP]; have := unhide HEE; omega))
                rw [unhide VV, ← unhide HQ0] at this
                exact this)
              have hg0 := (unhide HDn).2.1
              have hgi : (g : Int) - 1 = ((g - 1 : Nat) : Int) := by omega
              by_cases hbr : 4294967295 < r + t
              · have hbr' : (4294967295 : Int) < (r : Int) + (t : Int) := by omega
                clear hgi
                go_wp2_with fail
                go_meet
                case rel =>
                  have hst := (unhide HG).stop (g := g - 1) (r := r + t) (unhide HDn).2.2 (.inr hbr)
                  rw [unhide VV, ← unhide HQ0] at hst
                  exact ⟨g - 1, by congr 1; omega, hst.1, hide (unhide HDn).1, hide hst.2, hide (unhide HRU).drew.drew, hide (unhide HRQ).drew.drew, hide (unhide HBW).drew.drew⟩
              · have hbr' : ¬ (4294967295 : Int) < (r : Int) + (t : Int) := by omega
                clear hgi
                go_wp2
                go_roundw
                case rel => exact ⟨g - 1, r + t, by congr 1; omega, by go_num, by omega, by omega, hide (unhide HDn).2.2, hide (unhide HDn).1, trivial⟩
                case measure => simp [intOf]; omega
            · have hc' : ¬ (E : Int) < (P : Int) := by omega
              go_wp2_with fail
              go_meet
              case rel =>
                have hst := (unhide HG).stop (g := g) (r := r) (unhide HD) (.inl ⟨by omega, by rw [← unhide HP]; have := unhide HEE; omega⟩)
                rw [unhide VV, ← unhide HQ0] at hst
                exact ⟨g, rfl, hst.1, HL, hide hst.2, hide (unhide HRU).drew.drew, hide (unhide HRQ).drew.drew, hide (unhide HBW).drew.drew⟩
      case rest =>
        obtain ⟨g, rfl, hgb, HL, HGE, HRU, HRQ, HBW⟩ := hcut
        clear HDM HST HG d2 hq32 hr32 b00 b01 b02 k3 k5 k7
        go_wp2_with fail
        go_loopw [22, 23, 24] (fun cv dv iv wi => ∃ (i c d : Nat) (ts : List Nat), i ≤ lb ∧ iv = .int .i64 (i : Int) ∧ cv = .int .u64 (c : Int) ∧ dv = .int .u64 (d : Int) ∧ c < 4294967296 ∧ d ≤ 1 ∧ ts.length = la + 2 ∧ Hid (Bg.Ok ts) ∧ Hid (∀ l : Nat, i + j ≤ l → ts[l]? = us[l]?) ∧ Hid (Bg.val us + (c + d) * 4294967296 ^ (i + j) = Bg.val ts + g * Bg.val (vs.take i) * 4294967296 ^ j) ∧ Hid (RW wi gu ts) ∧ Hid (RW wi gq qs) ∧ Hid (Below gu w5 wi)) (fun _ _ iv _ => lb - (intOf iv).toNat)
        case atStart => exact ⟨0, 0, 0, us, Nat.zero_le _, rfl, rfl, rfl, by omega, by omega, hul, HOU, hide (fun _ _ => rfl), hide (by simp [Bg.val]), HRU, HRQ, HBW⟩
        case round =>
          clear HRU HRQ HBW
          obtain ⟨i, c, d, ts, hil, rfl, rfl, rfl, hcb, hdb, htl, HOT, HK, HE2, HRU, HRQ, HBW⟩ := hrel
          by_cases hi : i < lb
          · have hi' : (i : Int) < (lb : Int) := by omega
            obtain ⟨y, hy⟩ : ∃ y, vs[i]? = some y := ⟨_, List.getElem?_eq_getElem (by rw [unhide HLV]; exact hi)⟩
            have dy := ((unhide HBW).cell (p := ⟨bv, ov + i, none⟩) lv0).trans (unhide CV i y hy)
            have yb := (unhide OV).at hy
            obtain ⟨x, hx⟩ : ∃ x, ts[i + j]? = some x := ⟨_, List.getElem?_eq_getElem (by omega)⟩
            have dx := (unhide HRU).cell hx
            have fx := (unhide HRU).frozen (i + j)
            have xb := (unhide HOT).at hx
            obtain ⟨p1, _, p3⟩ := Bg.mul_lt (c := c) (r := 0) (show g < 4294967296 by omega) yb hcb (by omega)
            obtain ⟨P, hP⟩ : ∃ P, P = g * y := ⟨_, rfl⟩
            have hp : (g : Int) * (y : Int) = (P : Int) := by rw [hP, Int.natCast_mul]
            rw [← hP] at p1 p3
            have HP := hide hP
            obtain ⟨low, hlow⟩ : ∃ low, low = (c + P) % 4294967296 := ⟨_, rfl⟩
            obtain ⟨ch, hch⟩ : ∃ ch, ch = (c + P) / 4294967296 := ⟨_, rfl⟩
            have il : ((c : Int) + (P : Int)) % 4294967296 = (low : Int) := by omega
            have ih : ((c : Int) + (P : Int)) / 4294967296 = (ch : Int) := by omega
            have lowb : low < 4294967296 := by omega
            have chb : ch < 4294967296 := by omega
            have HC : Hid (ch * 4294967296 + low = c + P) := hide (by omega)
            obtain ⟨e1, he1⟩ : ∃ e1, e1 = (x + 18446744073709551616 - low) % 18446744073709551616 := ⟨_, rfl⟩
            obtain ⟨e2, he2⟩ : ∃ e2, e2 = (e1 + 18446744073709551616 - d) % 18446744073709551616 := ⟨_, rfl⟩
            have hw1 : IntKind.u64.wrap ((x : Int) - (low : Int)) = (e1 : Int) := by rw [IntKind.wrap_u64]; omega
            have hw2 : IntKind.u64.wrap ((e1 : Int) - (d : Int)) = (e2 : Int) := by rw [IntKind.wrap_u64]; omega
            have e1b : e1 < 18446744073709551616 := by omega
            have e2b : e2 < 18446744073709551616 := by omega
            have HBR := hide (Bg.borrow2 xb lowb hdb he1 he2)
            have hd2 := (unhide HBR).2
            have m1 : (i : Int) + (j : Int) < (la : Int) + 2 := by omega
            have HY := hide hy
            have HXX := hide hx
            clear hP hlow hch he1 he2 hx hy
            go_wp2
            go_roundw
            case rel => exact ⟨i + 1, ch, e2 / 9223372036854775808, ts.set (i + j) (e2 % 4294967296), by omega, by go_num, by go_num, by go_num, chb, hd2, by simpa using htl, hide ((unhide HOT).set _ (by omega)), hide (fun l hl => by
                rw [List.getElem?_set_ne (by omega)]
                exact unhide HK l (by omega)), hide (by
                have hs := Bg.val_set ts (i + j) x (e2 % 4294967296) (unhide HXX)
                rw [Bg.val_succ vs i y (unhide HY), show i + 1 + j = i + j + 1 by omega, Nat.pow_succ]
                exact Bg.ms_step (unhide HE2) hs (unhide HC) (unhide HBR).1 (unhide HP) (Nat.pow_add _ _ _)), hide (by
                have := (unhide HRU).set (i + j) (e2 % 4294967296)
                simpa using this), hide (RW.other (unhide HRQ) (by omega)), hide (below_set2 (unhide HBW) (Nat.le_refl _))⟩
            case measure => simp [intOf]; omega
          · have hie : i = lb := by omega
            subst i
            have HE3 : Hid (Bg.val us + (c + d) * 4294967296 ^ (lb + j) = Bg.val ts + g * V * 4294967296 ^ j) := hide (by
              have h := unhide HE2
              rw [List.take_of_length_le (by rw [unhide HLV]; exact Nat.le_refl _), unhide VV] at h
              exact h)
            have HTN : Hid (ts[j + lb]? = some u0) := hide (by rw [unhide HK (j + lb) (by omega)]; exact unhide HU0)
            have dn := (unhide HRU).cell (unhide HTN)
            have fn := (unhide HRU).frozen (j + lb)
            have ub := (unhide HOT).at (unhide HTN)
            have dq0 : ∃ z, qs[j]? = some z := ⟨_, List.getElem?_eq_getElem (by omega)⟩
            obtain ⟨z, hz⟩ := dq0
            have dq := (unhide HRQ).cell hz
            have fq := (unhide HRQ).frozen j
            have m1 : (j : Int) + (lb : Int) < (la : Int) + 2 := by omega
            have m2 : (j : Int) < (m : Int) + 1 := by omega
            have hne : ¬ gu = gq := by omega
            have hne2 : ¬ gq = gu := by omega
            have KL := hide (Bg.k_lt (us := us) (j := j) (unhide hVlt) (unhide HX))
            clear hz HE2
            by_cases hbo : c + d ≤ u0
            · obtain ⟨E, hE⟩ : ∃ E, E = u0 - c - d := ⟨_, rfl⟩
              have w1 : IntKind.u64.wrap ((u0 : Int) - (c : Int)) = (u0 : Int) - (c : Int) := by rw [IntKind.wrap_u64]; omega
              have w2 : IntKind.u64.wrap ((u0 : Int) - (c : Int) - (d : Int)) = (E : Int) := by rw [IntKind.wrap_u64]; omega
              have Eb : E < 4294967296 := by omega
              have HEE := hide hE
              have h63 : (E : Int) / 9223372036854775808 = 0 := by omega
              clear hE
              go_wp2
              go_roundw
              case rel =>
                have hs := Bg.val_set ts (j + lb) u0 E (unhide HTN)
                rw [unhide HEE, Nat.add_comm j lb] at hs
                obtain ⟨f1, f2⟩ := Bg.k_fine (Nat.pow_pos (by omega)) V0 (by rw [← unhide HQ0]; exact unhide HL) (unhide HE3) hs hbo
                rw [← unhide HQ0] at f1
                obtain ⟨f3, f4⟩ := Bg.k_fin (qs := qs) (q0 := q0) (X3 := Bg.val (ts.set (j + lb) E)) (by omega) V0 (unhide HE) (unhide HQ0) (by
                  rw [unhide HEE, Nat.add_comm j lb, ← f1]
                  omega)
                exact ⟨j, ts.set (j + lb) E, qs.set j q0, by omega, rfl, by simpa using htl, by simpa using hql, hide ((unhide HOT).set _ Eb), hide ((unhide HOQ).set _ (by omega)), hide (fun l x hl hx => by
                  rw [List.getElem?_set_ne (by omega)] at hx
                  exact unhide HZ l x (by omega) hx), hide f3, hide f4, hide (RW.other ((unhide HRU).set (j + lb) E) (by omega)), hide (by
                  rw [← f1]
                  exact (RW.other (unhide HRQ) (by omega)).set j g), hide (below_set2 (below_set2 (unhide HBW) (Nat.le_refl _)) (by omega))⟩
              case measure => simp [intOf]
            · obtain ⟨e1, he1⟩ : ∃ e1, e1 = (u0 + 18446744073709551616 - c) % 18446744073709551616 := ⟨_, rfl⟩
              obtain ⟨e2, he2⟩ : ∃ e2, e2 = (e1 + 18446744073709551616 - d) % 18446744073709551616 := ⟨_, rfl⟩
              have hw1 : IntKind.u64.wrap ((u0 : Int) - (c : Int)) = (e1 : Int) := by rw [IntKind.wrap_u64]; omega
              have hw2 : IntKind.u64.wrap ((e1 : Int) - (d : Int)) = (e2 : Int) := by rw [IntKind.wrap_u64]; omega
              have e1b : e1 < 18446744073709551616 := by omega
              have e2b : e2 < 18446744073709551616 := by omega
              obtain ⟨W1, hW1⟩ : ∃ W1, W1 = u0 + 4294967296 - c - d := ⟨_, rfl⟩
              have h63 : (e2 : Int) / 9223372036854775808 = 1 := by omega
              have h32 : (e2 : Int) % 4294967296 = (W1 : Int) := by omega
              have W1b : W1 < 4294967296 := by omega
              have HT1 : Hid (Bg.Ok (ts.set (j + lb) W1)) := hide ((unhide HOT).set _ W1b)
              have HK1 : Hid (∀ l : Nat, j + lb + 1 ≤ l → (ts.set (j + lb) W1)[l]? = us[l]?) := hide (fun l hl => by
                rw [List.getElem?_set_ne (by omega)]
                exact unhide HK l (by omega))
              have HN1 : Hid ((ts.set (j + lb) W1)[j + lb]? = some W1) := hide (List.getElem?_set_self (by omega))
              have HO : Hid (g = q0 + 1 ∧ Bg.val us + 4294967296 * 4294967296 ^ (lb + j) = Bg.val (ts.set (j + lb) W1) + g * V * 4294967296 ^ j) := hide (by
                have hs := Bg.val_set ts (j + lb) u0 W1 (unhide HTN)
                rw [hW1, Nat.add_comm j lb] at hs
                have hl := Bg.keep_lt (unhide HOU) (unhide HT1) (by rw [List.length_set, htl, hul]) (by omega) (unhide HK1) (unhide KL).1
                rw [Nat.pow_succ, Nat.mul_comm, Nat.add_comm j lb, hW1] at hl
                have := Bg.k_over (by rw [← unhide HQ0]; exact unhide HL) (by rw [← unhide HQ0]; exact unhide HGE) (unhide HE3) hs (by omega) hl
                rw [← unhide HQ0] at this
                rw [Nat.add_comm j lb, hW1]
                exact this)
              have hgi : (g : Int) - 1 = (q0 : Int) := by have := (unhide HO).1; omega
              have hgp : (0 : Int) < (g : Int) := by have := (unhide HO).1; omega
              have HR1 := hide ((unhide HRU).set (j + lb) W1)
              have hts : (ts.set (j + lb) W1).length = la + 2 := by rw [List.length_set]; exact htl
              generalize ts.set (j + lb) W1 = t1 at *
              clear he1 he2 hW1 HTN HK HE3 HOT htl
              go_wp2_with fail
              go_loopw [22, 27] (fun cv iv wx => ∃ (i c2 : Nat) (ss : List Nat), i ≤ lb ∧ iv = .int .i64 (i : Int) ∧ cv = .int .u64 (c2 : Int) ∧ c2 ≤ 1 ∧ ss.length = la + 2 ∧ Hid (Bg.Ok ss) ∧ Hid (∀ l : Nat, i + j ≤ l → ss[l]? = t1[l]?) ∧ Hid (Bg.val ss + c2 * 4294967296 ^ (i + j) = Bg.val t1 + Bg.val (vs.take i) * 4294967296 ^ j) ∧ Hid (RW wx gu ss) ∧ Hid (RW wx gq qs) ∧ Hid (Below gu w5 wx)) (fun _ iv _ => lb - (intOf iv).toNat)
              case atStart => exact ⟨0, 0, t1, Nat.zero_le _, rfl, rfl, by omega, hts, HT1, hide (fun _ _ => rfl), hide (by simp [Bg.val]), HR1, hide (RW.other (unhide HRQ) (by omega)), hide (below_set2 (unhide HBW) (Nat.le_refl _))⟩
              case round =>
                clear HR1 HRU HRQ HBW dn fn dq fq
                obtain ⟨i, c2, ss, hil, rfl, rfl, hc2, hsl, HOS, HKS, HES, HRU, HRQ, HBW⟩ := hrel
                by_cases hi : i < lb
                · have hi' : (i : Int) < (lb : Int) := by omega
                  obtain ⟨y, hy⟩ : ∃ y, vs[i]? = some y := ⟨_, List.getElem?_eq_getElem (by rw [unhide HLV]; exact hi)⟩
                  have dy := ((unhide HBW).cell (p := ⟨bv, ov + i, none⟩) lv0).trans (unhide CV i y hy)
                  have yb := (unhide OV).at hy
                  obtain ⟨x, hx⟩ : ∃ x, ss[i + j]? = some x := ⟨_, List.getElem?_eq_getElem (by omega)⟩
                  have dx := (unhide HRU).cell hx
                  have fx := (unhide HRU).frozen (i + j)
                  have xb := (unhide HOS).at hx
                  have m3 : (i : Int) + (j : Int) < (la : Int) + 2 := by omega
                  have HY := hide hy
                  have HXX := hide hx
                  clear hx hy
                  go_wp2_with fail
                  go_region
                  all_goals
                    go_wp2
                    go_roundw
                    case rel => exact ⟨i + 1, (c2 + (x + y)) / 4294967296, ss.set (i + j) ((c2 + (x + y)) % 4294967296), by omega, by go_num, by go_num, by omega, by simpa using hsl, hide ((unhide HOS).set _ (by omega)), hide (fun l hl => by
                        rw [List.getElem?_set_ne (by omega)]
                        exact unhide HKS l (by omega)), hide (by
                        have hs := Bg.val_set ss (i + j) x ((c2 + (x + y)) % 4294967296) (unhide HXX)
                        rw [Bg.val_succ vs i y (unhide HY), show i + 1 + j = i + j + 1 by omega, Nat.pow_succ]
                        exact Bg.ab_step (unhide HES) hs rfl (Nat.pow_add _ _ _)), hide (by
                        repeat apply RW.drew
                        have := (unhide HRU).set (i + j) ((c2 + (x + y)) % 4294967296)
                        simpa using this), hide (by
                        repeat apply RW.drew
                        exact RW.other (by repeat (first | exact unhide HRQ | apply RW.drew)) (by omega)), hide (by
                        repeat apply Below.drew
                        exact below_set2 (by repeat (first | exact unhide HBW | apply Below.drew)) (Nat.le_refl _))⟩
                    case measure => simp [intOf]; omega
                · have hie : i = lb := by omega
                  subst i
                  have HWN : Hid (ss[j + lb]? = some W1) := hide (by rw [unhide HKS (j + lb) (by omega)]; exact unhide HN1)
                  have dn := (unhide HRU).cell (unhide HWN)
                  have fn := (unhide HRU).frozen (j + lb)
                  obtain ⟨z, hz⟩ : ∃ z, qs[j]? = some z := ⟨_, List.getElem?_eq_getElem (by omega)⟩
                  have dq := (unhide HRQ).cell hz
                  have fq := (unhide HRQ).frozen j
                  obtain ⟨N1, hN1⟩ : ∃ N1, N1 = (W1 + c2) % 4294967296 := ⟨_, rfl⟩
                  have hwn : IntKind.u32.wrap ((W1 : Int) + (c2 : Int)) = (N1 : Int) := by rw [IntKind.wrap_u32]; omega
                  have N1b : N1 < 4294967296 := by omega
                  have q0b : q0 < 4294967296 := by omega
                  have HB3 : Hid (Bg.val (ss.set (j + lb) N1) = Bg.val us - q0 * V * 4294967296 ^ j) := hide (by
                    have hs := Bg.val_set ss (j + lb) W1 N1 (unhide HWN)
                    have hes := unhide HES
                    rw [List.take_of_length_le (by rw [unhide HLV]; exact Nat.le_refl _), unhide VV] at hes
                    have hlt := Bg.keep_lt (unhide HOU) (unhide HOS) (by rw [hsl, hul]) (by omega) (fun l hl => (unhide HKS l (by omega)).trans (unhide HK1 l hl)) (unhide KL).1
                    have hw := Bg.val_word (unhide HOS) (unhide HWN)
                    rw [Nat.div_eq_of_lt hlt, Nat.mul_zero, Nat.add_zero] at hw
                    have ho := (unhide HO).2
                    rw [(unhide HO).1] at ho
                    rw [Nat.add_comm j lb] at hw hs
                    rw [hN1] at hs
                    have := Bg.k_back (Nat.pow_pos (by omega)) V0 (unhide KL).2 (unhide HQ0) ho hes hw W1b hc2 hs
                    rw [Nat.add_comm j lb, hN1]
                    exact this)
                  clear hz hN1
                  go_wp2
                  go_roundw
                  case rel =>
                    obtain ⟨f3, f4⟩ := Bg.k_fin (qs := qs) (q0 := q0) (by omega) V0 (unhide HE) (unhide HQ0) (unhide HB3)
                    exact ⟨j, ss.set (j + lb) N1, qs.set j q0, by omega, rfl, by simpa using hsl, by simpa using hql, hide ((unhide HOS).set _ N1b), hide ((unhide HOQ).set _ q0b), hide (fun l x hl hx => by
                      rw [List.getElem?_set_ne (by omega)] at hx
                      exact unhide HZ l x (by omega) hx), hide f3, hide f4, hide (RW.other ((unhide HRU).set (j + lb) N1) (by omega)), hide ((RW.other (unhide HRQ) (by omega)).set j q0), hide (below_set2 (below_set2 (unhide HBW) (Nat.le_refl _)) (by omega))⟩
                  case measure => simp [intOf]

theorem div_any (u v : Value) (a b : Nat) (w : World) (hu : WS w u (Bg.wd a)) (hv : WS w v (Bg.wd b)) (ha : (Bg.wd a).length ≤ 100000) (hb : (Bg.wd b).length ≤ 100000) (b0 : b ≠ 0) :
    Calls Tryz.prog 157 #[u, v] w fun e w' => ∃ p q, e = .returned (.tuple #[p, q]) ∧ WS w' p (Bg.wd (a / b)) ∧ WS w' q (Bg.wd (a % b)) ∧ Below w.heap.size w w' := by
  have hl := wd_pos_len b0
  by_cases h : a < b ∨ (Bg.wd a).length ≤ 2 ∨ (Bg.wd b).length = 1
  · exact div_easy u v a b w hu hv ha hb b0 h
  · exact div_long u v a b w hu hv ha hb (by omega) (by omega) (by omega)
end Go.Proofs.YtdkgapapdjefdaaGreatDoor

/- Walks: common. -/
namespace Go.Proofs.YtdkgapapdjefdaaGreatDoor
open Go.RowKit

set_option maxRecDepth 100000 in
set_option maxHeartbeats 4000000 in
theorem common_any (u v : Value) (a b : Nat) (w : World) (hu : WS w u (Bg.wd a)) (hv : WS w v (Bg.wd b)) (ha : (Bg.wd a).length ≤ 100000) (hb : (Bg.wd b).length ≤ 100000) :
    Calls Tryz.prog 156 #[u, v] w fun e w' => ∃ u, e = .returned u ∧ WS w' u (Bg.wd (Nat.gcd a b)) ∧ Below w.heap.size w w' := by
  have HU := hide hu
  have HV := hide hv
  obtain ⟨p, cap, rfl, -⟩ := hu
  obtain ⟨q, cap2, rfl, -⟩ := hv
  go_enter Tryz.func156, Tryz.ntmps156
  go_wp2_with fail
  go_loopg [0, 1] b (fun gk av bv wr => ∃ (A : Nat) (p q : Option Addr) (cap cap2 : Nat), av = .slice p (Bg.wd A).length cap ∧ bv = .slice q (Bg.wd gk).length cap2 ∧ Hid (WS wr (.slice p (Bg.wd A).length cap) (Bg.wd A)) ∧ Hid (WS wr (.slice q (Bg.wd gk).length cap2) (Bg.wd gk)) ∧ (Bg.wd A).length ≤ 100000 ∧ (Bg.wd gk).length ≤ 100000 ∧ Hid (Nat.gcd A gk = Nat.gcd a b) ∧ Hid (Below w.heap.size w wr))
  case atStart => exact ⟨a, _, _, _, _, rfl, rfl, HU, HV, ha, hb, hide rfl, hide (Below.refl _ _)⟩
  case round =>
    clear HU HV ha hb
    obtain ⟨A, p, q, cap, cap2, rfl, rfl, HA, HB, la, lb, HG, HW⟩ := hrel
    obtain ⟨na, hna⟩ : ∃ na, na = (Bg.wd A).length := ⟨_, rfl⟩
    obtain ⟨nb, hnb⟩ : ∃ nb, nb = (Bg.wd gk).length := ⟨_, rfl⟩
    have HNA := hide hna
    have HNB := hide hnb
    by_cases h2 : 2 < nb
    · have h2' : (2 : Int) < (nb : Int) := by omega
      have g0 : gk ≠ 0 := fun e => by rw [e, Bg.wd_zero] at hnb; simp at hnb; omega
      have DV := hide (div_any _ _ A gk wr (unhide HA) (unhide HB) la lb g0)
      rw [← hna, ← hnb] at DV ⊢
      clear hna hnb
      go_wp2_with fail
      refine (unhide DV).mono ?_
      rintro e w2 ⟨v1, v2, rfl, hv1, hv2, hb2⟩
      obtain ⟨p2, cap3, rfl, -⟩ := id hv2
      have HV2 := hide hv2
      have HB2 := hide hb2
      clear hv1 hv2 hb2 DV
      go_wp2
      go_roundg (A % gk)
      case measure => exact Nat.mod_lt _ (by omega)
      case rel => exact ⟨gk, q, p2, cap2, cap3, by rw [unhide HNB], rfl, hide ((unhide HB).below (unhide HB2)), HV2, lb, Nat.le_trans (Bg.wd_mono (Nat.mod_le _ _)) la, hide (by rw [← unhide HG, Nat.gcd_comm A gk, Nat.gcd_rec gk A, Nat.gcd_comm]), hide (below_via (unhide HW) (unhide HB2))⟩
    · have h2' : ¬ (2 : Int) < (nb : Int) := by omega
      by_cases h0 : gk = 0
      · subst h0
        have hnb0 : nb = 0 := by rw [hnb, Bg.wd_zero]; rfl
        subst hnb0
        have HXE : Hid (A = Nat.gcd a b) := hide (by have := unhide HG; rwa [Nat.gcd_zero_right] at this)
        rw [← hna, Bg.wd_zero, List.length_nil]
        clear hna hnb
        go_wp2
        go_ret
        rw [← unhide HXE]
        exact ⟨_, rfl, by rw [unhide HNA]; exact unhide HA, unhide HW⟩
      · have hnb1 := wd_pos_len h0
        rw [← hnb] at hnb1
        have g1 : ((nb : Int) == 0) = false := by rw [beq_eq_false_iff_ne]; omega
        have b64 : gk < 18446744073709551616 := wd_len2 (by omega)
        by_cases h3 : 2 < na
        · have h3' : (2 : Int) < (na : Int) := by omega
          have DV := hide (div_any _ _ A gk wr (unhide HA) (unhide HB) la lb h0)
          rw [← hna, ← hnb] at DV ⊢
          rw [← hnb] at HB
          clear hna hnb
          go_wp2_with fail
          refine (unhide DV).mono ?_
          rintro e w2 ⟨v1, v2, rfl, hv1, hv2, hb2⟩
          obtain ⟨p2, cap3, rfl, -⟩ := id hv2
          obtain ⟨R1, hR1⟩ : ∃ R1, R1 = A % gk := ⟨_, rfl⟩
          have HG1 : Hid (Nat.gcd gk R1 = Nat.gcd a b) := hide (by rw [← unhide HG, hR1, Nat.gcd_comm A gk, Nat.gcd_rec gk A, Nat.gcd_comm])
          have HA1 := hide ((unhide HB).below hb2)
          have HB1 := hide hv2
          have HW1 := hide (below_via (unhide HW) hb2)
          have r64 : R1 < 18446744073709551616 := by rw [hR1]; exact Nat.lt_trans (Nat.mod_lt _ (by omega)) b64
          rw [← hR1] at HB1 ⊢
          clear hv1 hv2 hb2 DV hR1
          go_wp2_with fail
          refine (unhide (hide (plain_any _ gk b64 _ (unhide HA1)))).mono ?_
          rintro e x1 ⟨rfl, hx1⟩
          subst x1
          go_wp2_with fail
          refine (unhide (hide (plain_any _ R1 r64 _ (unhide HB1)))).mono ?_
          rintro e x1 ⟨rfl, hx1⟩
          subst x1
          go_wp2_with fail
          go_loopg [9, 10] R1 (fun gk xv yv wx => ∃ x : Nat, xv = .int .u64 (x : Int) ∧ yv = .int .u64 (gk : Int) ∧ x < 18446744073709551616 ∧ gk < 18446744073709551616 ∧ Hid (Nat.gcd x gk = Nat.gcd a b) ∧ Hid (Below w.heap.size w wx))
          case atStart => exact ⟨gk, rfl, rfl, b64, r64, HG1, HW1⟩
          case round =>
            clear HA1 HB1 HG1 HW1
            obtain ⟨x, rfl, rfl, hx64, hy64, HG, HW⟩ := hrel
            by_cases hy0 : gk = 0
            · subst hy0
              have HXE : Hid (x = Nat.gcd a b) := hide (by have := unhide HG; rwa [Nat.gcd_zero_right] at this)
              have WW := hide (words_any x hx64 wr)
              go_wp2_with fail
              refine (unhide WW).mono ?_
              rintro e y1 ⟨v1, rfl, hv1, hb1⟩
              have HV := hide hv1
              have HB := hide hb1
              clear hv1 hb1
              go_wp2
              go_ret
              rw [← unhide HXE]
              exact ⟨_, rfl, unhide HV, below_via (unhide HW) (unhide HB)⟩
            · have hyp : (0 : Int) < (gk : Int) := by omega
              have hyz : ((gk : Int) == 0) = false := by rw [beq_eq_false_iff_ne]; omega
              obtain ⟨R, hR⟩ : ∃ R, R = x % gk := ⟨_, rfl⟩
              have t2 : ((x : Nat) : Int).tmod (gk : Int) = (R : Int) := by rw [hR]; rfl
              have Rlt : R < gk := by rw [hR]; exact Nat.mod_lt _ (by omega)
              have wR : IntKind.u64.wrap (R : Int) = (R : Int) := by rw [IntKind.wrap_u64]; omega
              have HGR : Hid (Nat.gcd gk R = Nat.gcd a b) := hide (by rw [← unhide HG, hR, Nat.gcd_comm x gk, Nat.gcd_rec gk x, Nat.gcd_comm])
              clear hR
              go_wp2_with fail
              go_region
              all_goals
                go_wp2
                go_roundg R
                case measure => exact Rlt
                case rel => exact ⟨gk, by first | rfl | go_num, by first | rfl | go_num, hy64, by omega, HGR, hide (by repeat (first | exact unhide HW | apply Below.drew))⟩
        · have h3' : ¬ (2 : Int) < (na : Int) := by omega
          have a64 : A < 18446744073709551616 := wd_len2 (by omega)
          have HG1 := HG
          have HA1 := HA
          have HB1 := HB
          have HW1 := HW
          rw [← hna, ← hnb]
          rw [← hna] at HA1
          rw [← hnb] at HB1
          clear hna hnb
          go_wp2_with fail
          refine (unhide (hide (plain_any _ A a64 _ (unhide HA1)))).mono ?_
          rintro e x1 ⟨rfl, hx1⟩
          subst x1
          go_wp2_with fail
          refine (unhide (hide (plain_any _ gk b64 _ (unhide HB1)))).mono ?_
          rintro e x1 ⟨rfl, hx1⟩
          subst x1
          go_wp2_with fail
          go_loopg [9, 10] gk (fun gk xv yv wx => ∃ x : Nat, xv = .int .u64 (x : Int) ∧ yv = .int .u64 (gk : Int) ∧ x < 18446744073709551616 ∧ gk < 18446744073709551616 ∧ Hid (Nat.gcd x gk = Nat.gcd a b) ∧ Hid (Below w.heap.size w wx))
          case atStart => exact ⟨A, rfl, rfl, a64, b64, HG1, HW1⟩
          case round =>
            clear HA1 HB1 HG1 HW1
            obtain ⟨x, rfl, rfl, hx64, hy64, HG, HW⟩ := hrel
            by_cases hy0 : gk = 0
            · subst hy0
              have HXE : Hid (x = Nat.gcd a b) := hide (by have := unhide HG; rwa [Nat.gcd_zero_right] at this)
              have WW := hide (words_any x hx64 wr)
              go_wp2_with fail
              refine (unhide WW).mono ?_
              rintro e y1 ⟨v1, rfl, hv1, hb1⟩
              have HV := hide hv1
              have HB := hide hb1
              clear hv1 hb1
              go_wp2
              go_ret
              rw [← unhide HXE]
              exact ⟨_, rfl, unhide HV, below_via (unhide HW) (unhide HB)⟩
            · have hyp : (0 : Int) < (gk : Int) := by omega
              have hyz : ((gk : Int) == 0) = false := by rw [beq_eq_false_iff_ne]; omega
              obtain ⟨R, hR⟩ : ∃ R, R = x % gk := ⟨_, rfl⟩
              have t2 : ((x : Nat) : Int).tmod (gk : Int) = (R : Int) := by rw [hR]; rfl
              have Rlt : R < gk := by rw [hR]; exact Nat.mod_lt _ (by omega)
              have wR : IntKind.u64.wrap (R : Int) = (R : Int) := by rw [IntKind.wrap_u64]; omega
              have HGR : Hid (Nat.gcd gk R = Nat.gcd a b) := hide (by rw [← unhide HG, hR, Nat.gcd_comm x gk, Nat.gcd_rec gk x, Nat.gcd_comm])
              clear hR
              go_wp2_with fail
              go_region
              all_goals
                go_wp2
                go_roundg R
                case measure => exact Rlt
                case rel => exact ⟨gk, by first | rfl | go_num, by first | rfl | go_num, hy64, by omega, HGR, hide (by repeat (first | exact unhide HW | apply Below.drew))⟩
end Go.Proofs.YtdkgapapdjefdaaGreatDoor

/- Walks: QuoRem, Quo of whole numbers. -/
namespace Go.Proofs.YtdkgapapdjefdaaGreatDoor
open Go.RowKit

theorem quo_sign (x y : Int) : (if (decide (x < 0) != decide (y < 0)) = true then -((x.natAbs / y.natAbs : Nat) : Int) else ((x.natAbs / y.natAbs : Nat) : Int)) = x.tdiv y := by
  rcases Int.lt_or_le x 0 with hx | hx <;> rcases Int.lt_or_le y 0 with hy | hy
  · rw [decide_eq_true hx, decide_eq_true hy, if_neg (by decide)]
    obtain ⟨a, rfl⟩ : ∃ a : Nat, x = -(a : Int) := ⟨x.natAbs, by omega⟩
    obtain ⟨b, rfl⟩ : ∃ b : Nat, y = -(b : Int) := ⟨y.natAbs, by omega⟩
    rw [Int.neg_tdiv, Int.tdiv_neg, Int.neg_neg, Int.natAbs_neg, Int.natAbs_neg, Int.natAbs_natCast, Int.natAbs_natCast]
    rfl
  · rw [decide_eq_true hx, decide_eq_false (by omega), if_pos (by decide)]
    obtain ⟨a, rfl⟩ : ∃ a : Nat, x = -(a : Int) := ⟨x.natAbs, by omega⟩
    obtain ⟨b, rfl⟩ : ∃ b : Nat, y = (b : Int) := ⟨y.natAbs, by omega⟩
    rw [Int.neg_tdiv, Int.natAbs_neg, Int.natAbs_natCast, Int.natAbs_natCast]
    rfl
  · rw [decide_eq_false (by omega), decide_eq_true hy, if_pos (by decide)]
    obtain ⟨a, rfl⟩ : ∃ a : Nat, x = (a : Int) := ⟨x.natAbs, by omega⟩
    obtain ⟨b, rfl⟩ : ∃ b : Nat, y = -(b : Int) := ⟨y.natAbs, by omega⟩
    rw [Int.tdiv_neg, Int.natAbs_neg, Int.natAbs_natCast, Int.natAbs_natCast]
    rfl
  · rw [decide_eq_false (by omega), decide_eq_false (by omega), if_neg (by decide)]
    obtain ⟨a, rfl⟩ : ∃ a : Nat, x = (a : Int) := ⟨x.natAbs, by omega⟩
    obtain ⟨b, rfl⟩ : ∃ b : Nat, y = (b : Int) := ⟨y.natAbs, by omega⟩
    rfl
theorem rem_sign (x y : Int) : (if decide (x < 0) = true then -((x.natAbs % y.natAbs : Nat) : Int) else ((x.natAbs % y.natAbs : Nat) : Int)) = x.tmod y := by
  have key : ∀ (a : Nat) (y : Int), (a : Int).tmod y = ((a % y.natAbs : Nat) : Int) := fun a y => by
    rcases Int.lt_or_le y 0 with hy | hy
    · obtain ⟨b, rfl⟩ : ∃ b : Nat, y = -(b : Int) := ⟨y.natAbs, by omega⟩
      rw [Int.tmod_neg, Int.natAbs_neg, Int.natAbs_natCast]
      rfl
    · obtain ⟨b, rfl⟩ : ∃ b : Nat, y = (b : Int) := ⟨y.natAbs, by omega⟩
      rfl
  rcases Int.lt_or_le x 0 with hx | hx
  · rw [decide_eq_true hx, if_pos rfl]
    obtain ⟨a, rfl⟩ : ∃ a : Nat, x = -(a : Int) := ⟨x.natAbs, by omega⟩
    rw [Int.neg_tmod, key, Int.natAbs_neg, Int.natAbs_natCast]
  · rw [decide_eq_false (by omega), if_neg (by decide)]
    obtain ⟨a, rfl⟩ : ∃ a : Nat, x = (a : Int) := ⟨x.natAbs, by omega⟩
    rw [key, Int.natAbs_natCast]
end Go.Proofs.YtdkgapapdjefdaaGreatDoor

/- Walks: Quo, Uint64, Int64, Cmp of whole numbers. -/
namespace Go.Proofs.YtdkgapapdjefdaaGreatDoor
open Go.RowKit

theorem out_new {w wa w1 w' : World} {b o p q : Nat} (h0 : Below w.heap.size w wa) (h1 : Out b o wa w1) (h2 : Out p q w1 w') (hp : w.heap.size ≤ p) (hb : b < w.heap.size) : Out b o w w' := by
  have s1 := h0.size
  have s2 := h1.size
  refine ⟨h2.os.trans (h1.os.trans h0.os), h2.tape.trans (h1.tape.trans h0.tape), h2.output.trans (h1.output.trans h0.output), Nat.le_trans s1 (Nat.le_trans s2 h2.size), fun k hk hkb => ?_, fun c t hc => ?_⟩
  · rw [h2.block k (by omega) (by omega), h1.block k (by omega) hkb, h0.block k hk]
  · obtain ⟨c', g1, g2, g3⟩ := h1.self c t ((h0.block b hb).trans hc)
    exact ⟨c', (h2.block b (by omega) (by omega)).trans g1, g2, g3⟩
theorem ZA.new (w : World) : ZA (w.alloc (.cells #[.bool false, .slice none 0 0] 134)) w.heap.size 0 :=
  ⟨#[.bool false, .slice none 0 0], 134, by show (w.heap.push _)[w.heap.size]? = _; simp, by decide, by simp⟩
end Go.Proofs.YtdkgapapdjefdaaGreatDoor

/- Walks: DivMod of whole numbers. -/
namespace Go.Proofs.YtdkgapapdjefdaaGreatDoor
open Go.RowKit

theorem div_uniq {x y q r : Int} (hy : y ≠ 0) (h : x = y * q + r) (h0 : 0 ≤ r) (h1 : r < (y.natAbs : Int)) : x / y = q ∧ x % y = r := by
  have e : x % y = r := by
    rw [h, Int.mul_add_emod_self_left]
    rcases Int.lt_or_le y 0 with hn | hn
    · have : r % (-y) = r := Int.emod_eq_of_lt h0 (by omega)
      rwa [Int.emod_neg] at this
    · exact Int.emod_eq_of_lt h0 (by omega)
  refine ⟨?_, e⟩
  have g := Int.mul_ediv_add_emod x y
  rw [e, h] at g
  have g2 : y * ((y * q + r) / y) = y * q := by omega
  rw [h]
  exact Int.eq_of_mul_eq_mul_left hy g2
theorem tmod_facts {x y : Int} (hy : y ≠ 0) : x = y * x.tdiv y + x.tmod y ∧ (x.tmod y).natAbs < y.natAbs := by
  refine ⟨(Int.mul_tdiv_add_tmod x y).symm, ?_⟩
  have h := rem_sign x y
  have l : x.natAbs % y.natAbs < y.natAbs := Nat.mod_lt _ (by omega)
  split at h <;> omega
theorem dm_pos {x y : Int} (hy : y ≠ 0) (h : ¬ x.tmod y < 0) : x / y = x.tdiv y ∧ x % y = x.tmod y := by
  obtain ⟨e, l⟩ := tmod_facts (x := x) hy
  exact div_uniq hy e (by omega) (by omega)
theorem dm_neg {x y : Int} (hy : y < 0) (h : x.tmod y < 0) : x / y = x.tdiv y + 1 ∧ x % y = x.tmod y + -y := by
  obtain ⟨e, l⟩ := tmod_facts (x := x) (y := y) (by omega)
  refine div_uniq (by omega) ?_ (by omega) (by omega)
  rw [Int.mul_add]
  omega
theorem dm_neg2 {x y : Int} (hy : 0 < y) (h : x.tmod y < 0) : x / y = x.tdiv y + -1 ∧ x % y = x.tmod y + y := by
  obtain ⟨e, l⟩ := tmod_facts (x := x) (y := y) (by omega)
  refine div_uniq (by omega) ?_ (by omega) (by omega)
  rw [Int.mul_add]
  omega
/-- all but two blocks is as it was -/
structure Bl2 (b m : Nat) (w w' : World) : Prop where
  os : w'.os = w.os
  tape : w'.tape = w.tape
  output : w'.output = w.output
  size : w.heap.size ≤ w'.heap.size
  block : ∀ k, k < w.heap.size → k ≠ b → k ≠ m → w'.heap[k]? = w.heap[k]?
  self : ∀ (k : Nat) c t, w.heap[k]? = some (.cells c t (0, 0)) → ∃ c', w'.heap[k]? = some (.cells c' t (0, 0)) ∧ c'.size = c.size
theorem Out.selfk {b o : Nat} {w w' : World} (h : Out b o w w') : ∀ (k : Nat) c t, w.heap[k]? = some (.cells c t (0, 0)) → ∃ c', w'.heap[k]? = some (.cells c' t (0, 0)) ∧ c'.size = c.size := fun k c t hk => by
  by_cases e : k = b
  · subst e
    obtain ⟨c', h1, h2, _⟩ := h.self c t hk
    exact ⟨c', h1, h2⟩
  · exact ⟨c, (h.block k (Array.getElem?_eq_some_iff.1 hk).1 e).trans hk, rfl⟩
theorem Bl2.of {b m : Nat} {w w' : World} (h : Below w.heap.size w w') : Bl2 b m w w' := ⟨h.os, h.tape, h.output, h.size, fun k hk _ _ => h.block k hk, fun k c _ hk => ⟨c, (h.block k (Array.getElem?_eq_some_iff.1 hk).1).trans hk, rfl⟩⟩
theorem Bl2.out1 {b m o : Nat} {w w' : World} (h : Out b o w w') : Bl2 b m w w' := ⟨h.os, h.tape, h.output, h.size, fun k hk h1 _ => h.block k hk h1, h.selfk⟩
theorem Bl2.out2 {b m o : Nat} {w w' : World} (h : Out m o w w') : Bl2 b m w w' := ⟨h.os, h.tape, h.output, h.size, fun k hk _ h1 => h.block k hk h1, h.selfk⟩
theorem Bl2.trans {b m : Nat} {w1 w2 w3 : World} (h : Bl2 b m w1 w2) (k : Bl2 b m w2 w3) : Bl2 b m w1 w3 :=
  ⟨k.os.trans h.os, k.tape.trans h.tape, k.output.trans h.output, Nat.le_trans h.size k.size, fun i hi h1 h2 => (k.block i (Nat.lt_of_lt_of_le hi h.size) h1 h2).trans (h.block i hi h1 h2), fun i c t hi => by
    obtain ⟨c2, e2, s2⟩ := h.self i c t hi
    obtain ⟨c3, e3, s3⟩ := k.self i c2 t e2
    exact ⟨c3, e3, s3.trans s2⟩⟩
theorem len_small {n : Nat} (h : n < 18446744073709551616) : (Bg.wd n).length ≤ 100000 := Nat.le_trans (Bg.wd_len_le 2 n (by omega)) (by omega)
end Go.Proofs.YtdkgapapdjefdaaGreatDoor

/- Walks: Mod, Cmp of whole numbers. -/
namespace Go.Proofs.YtdkgapapdjefdaaGreatDoor
open Go.RowKit

theorem bl2_new {w wa w' : World} {b m : Nat} (h0 : Below w.heap.size w wa) (h1 : Bl2 b m wa w') (hb : w.heap.size ≤ b) : Bl2 m m w w' := by
  have s1 := h0.size
  refine ⟨h1.os.trans h0.os, h1.tape.trans h0.tape, h1.output.trans h0.output, Nat.le_trans s1 h1.size, fun k hk hk1 _ => ?_, fun k c t hk => ?_⟩
  · rw [h1.block k (by omega) (by omega) hk1, h0.block k hk]
  · exact h1.self k c t ((h0.block k (Array.getElem?_eq_some_iff.1 hk).1).trans hk)

def icmp (x y : Int) : Int := if x < y then -1 else if x = y then 0 else 1
theorem icmp_pos {x y : Int} (hx : 0 ≤ x) (hy : 0 ≤ y) : icmp x y = Bg.cmpN x.natAbs y.natAbs := by
  unfold icmp
  rcases Int.lt_trichotomy x y with h | h | h
  · rw [if_pos h, Bg.cmpN_lt (by omega)]
  · rw [if_neg (by omega), if_pos h, Bg.cmpN_eq (by omega)]
  · rw [if_neg (by omega), if_neg (by omega), Bg.cmpN_gt (by omega)]
theorem icmp_neg {x y : Int} (hx : x < 0) (hy : y < 0) : icmp x y = -Bg.cmpN x.natAbs y.natAbs := by
  unfold icmp
  rcases Int.lt_trichotomy x y with h | h | h
  · rw [if_pos h, Bg.cmpN_gt (by omega)]
  · rw [if_neg (by omega), if_pos h, Bg.cmpN_eq (by omega)]
    rfl
  · rw [if_neg (by omega), if_neg (by omega), Bg.cmpN_lt (by omega)]
    rfl
theorem cmpN_bd (a b : Nat) : -1 ≤ Bg.cmpN a b ∧ Bg.cmpN a b ≤ 1 := by
  unfold Bg.cmpN
  split
  · omega
  · split <;> omega

set_option maxHeartbeats 4000000 in
theorem icmp_any (bx ox b2 oy : Nat) (x y : Int) (w : World) (hx : IA w bx ox x) (hy : IA w b2 oy y) :
    Calls Tryz.prog 102 #[.pointer (some ⟨bx, ox, none⟩), .pointer (some ⟨b2, oy, none⟩)] w fun e w' => e = .returned (.int .i64 (icmp x y)) ∧ Below w.heap.size w w' := by
  obtain ⟨vx, x1, x2⟩ := hx.abs
  obtain ⟨vy, y1, y2⟩ := hy.abs
  obtain ⟨px, cx, rfl, -⟩ := id x2
  obtain ⟨py, cy, rfl, -⟩ := id y2
  have xn := hx.neg
  have yn := hy.neg
  have bxl := hx.place.low
  have CM := hide (fun (wx : World) (hb : Below w.heap.size w wx) => cmp_any _ _ x.natAbs y.natAbs wx (x2.below hb) (y2.below hb))
  have IP := hide (fun h1 h2 => icmp_pos (x := x) (y := y) h1 h2)
  have IN := hide (fun h1 h2 => icmp_neg (x := x) (y := y) h1 h2)
  obtain ⟨c1, c2⟩ := cmpN_bd x.natAbs y.natAbs
  generalize Bg.cmpN x.natAbs y.natAbs = cm at *
  clear x2 y2 hx hy
  go_enter Tryz.func102, Tryz.ntmps102
  by_cases hxn : x < 0
  · rw [decide_eq_true hxn] at xn
    by_cases hyn : y < 0
    · rw [decide_eq_true hyn] at yn
      have HS := hide (unhide IN hxn hyn)
      go_wp2_with fail
      go_region
      all_goals
        go_wp2_with fail
      go_region_with (
        go_at_call 127
        (refine (unhide CM _ ?_).mono ?_; · exact (by repeat (first | exact Below.refl _ _ | apply Below.drew)))
        rintro e w1 ⟨rfl, hb1⟩
        replace hb1 : Below w.heap.size w w1 := below_via (by repeat (first | exact Below.refl _ _ | apply Below.drew)) hb1
        have xn1 := (hb1.cell (p := ⟨bx, ox, none⟩) bxl).trans xn)
      all_goals
        have HB := hide hb1
        clear hb1
        go_wp2
        go_ret
        rw [unhide HS]
        exact ⟨rfl, by repeat (first | exact unhide HB | apply Below.drew)⟩
    · rw [decide_eq_false hyn] at yn
      have HS : Hid (icmp x y = -1) := hide (by unfold icmp; rw [if_pos (by omega)])
      go_wp2_with fail
      go_region
      all_goals
        go_wp2
        go_ret
        rw [unhide HS]
        exact ⟨rfl, by repeat (first | exact Below.refl _ _ | apply Below.drew)⟩
  · rw [decide_eq_false hxn] at xn
    by_cases hyn : y < 0
    · rw [decide_eq_true hyn] at yn
      have HS : Hid (icmp x y = 1) := hide (by unfold icmp; rw [if_neg (by omega), if_neg (by omega)])
      go_wp2_with fail
      go_region
      all_goals
        go_wp2
        go_ret
        rw [unhide HS]
        exact ⟨rfl, by repeat (first | exact Below.refl _ _ | apply Below.drew)⟩
    · rw [decide_eq_false hyn] at yn
      have HS := hide (unhide IP (by omega) (by omega))
      go_wp2_with fail
      go_region
      all_goals
        go_wp2_with fail
      go_region_with (
        go_at_call 127
        (refine (unhide CM _ ?_).mono ?_; · exact (by repeat (first | exact Below.refl _ _ | apply Below.drew)))
        rintro e w1 ⟨rfl, hb1⟩
        replace hb1 : Below w.heap.size w w1 := below_via (by repeat (first | exact Below.refl _ _ | apply Below.drew)) hb1
        have xn1 := (hb1.cell (p := ⟨bx, ox, none⟩) bxl).trans xn)
      all_goals
        have HB := hide hb1
        clear hb1
        go_wp2
        go_ret
        rw [unhide HS]
        exact ⟨rfl, by repeat (first | exact unhide HB | apply Below.drew)⟩
end Go.Proofs.YtdkgapapdjefdaaGreatDoor

/- Ratios in memory; den. -/
namespace Go.Proofs.YtdkgapapdjefdaaGreatDoor
open Go.RowKit

/-- all but one block is as it was; that one has as many cells of its type -/
structure Blk (p : Nat) (w w' : World) : Prop where
  os : w'.os = w.os
  tape : w'.tape = w.tape
  output : w'.output = w.output
  size : w.heap.size ≤ w'.heap.size
  block : ∀ k, k < w.heap.size → k ≠ p → w'.heap[k]? = w.heap[k]?
  self : ∀ c t, w.heap[p]? = some (.cells c t (0, 0)) → ∃ c', w'.heap[p]? = some (.cells c' t (0, 0)) ∧ c'.size = c.size
theorem Blk.refl (p : Nat) (w : World) : Blk p w w := ⟨rfl, rfl, rfl, Nat.le_refl _, fun _ _ _ => rfl, fun c _ h => ⟨c, h, rfl⟩⟩
theorem Blk.trans {p : Nat} {w1 w2 w3 : World} (h : Blk p w1 w2) (k : Blk p w2 w3) : Blk p w1 w3 :=
  ⟨k.os.trans h.os, k.tape.trans h.tape, k.output.trans h.output, Nat.le_trans h.size k.size, fun i hi hb => (k.block i (Nat.lt_of_lt_of_le hi h.size) hb).trans (h.block i hi hb), fun c t hc => by
    obtain ⟨c2, h2, s2⟩ := h.self c t hc
    obtain ⟨c3, h3, s3⟩ := k.self c2 t h2
    exact ⟨c3, h3, s3.trans s2⟩⟩
theorem Blk.of {p : Nat} {w w' : World} (h : Below w.heap.size w w') : Blk p w w' :=
  ⟨h.os, h.tape, h.output, h.size, fun k hk _ => h.block k hk, fun c _ hc => ⟨c, (h.block p (Array.getElem?_eq_some_iff.1 hc).1).trans hc, rfl⟩⟩
theorem Out.blk {p o : Nat} {w w' : World} (h : Out p o w w') : Blk p w w' :=
  ⟨h.os, h.tape, h.output, h.size, h.block, fun c t hc => by
    obtain ⟨c', g1, g2, _⟩ := h.self c t hc
    exact ⟨c', g1, g2⟩⟩
theorem Bl2.blk {p : Nat} {w w' : World} (h : Bl2 p p w w') : Blk p w w' := ⟨h.os, h.tape, h.output, h.size, fun k hk h1 => h.block k hk h1 h1, fun c t hc => h.self p c t hc⟩
theorem Blk.below {p B : Nat} {w w' : World} (h : Blk p w w') (hb : B ≤ p) (hw : B ≤ w.heap.size) : Below B w w' :=
  ⟨h.os, h.tape, h.output, h.size, fun k hk => h.block k (by omega) (by omega)⟩
theorem Blk.kw {p o : Nat} {w w' : World} (h : Blk p w w') (hz : ZA w p o) : KW w w' := fun k cs hk => by
  by_cases e : k = p
  · subst e
    obtain ⟨c, t, h1, h2, _⟩ := hz
    unfold RW at hk
    rw [hk] at h1
    cases h1
    exact absurd rfl h2
  · exact (h.block k hk.low e).trans hk
theorem ZA.blk {w w' : World} {b o p : Nat} (h : ZA w b o) (hb : Blk p w w') : ZA w' b o := by
  have l := h.low
  obtain ⟨c, t, h1, h2, h3⟩ := h
  by_cases e : b = p
  · subst e
    obtain ⟨c', g1, g2⟩ := hb.self c t h1
    exact ⟨c', t, g1, h2, by omega⟩
  · exact ⟨c, t, (hb.block b l e).trans h1, h2, h3⟩
theorem IA.blk {w w' : World} {b o p : Nat} {z : Int} (h : IA w b o z) (hb : Blk p w w') {q : Nat} (hz : ZA w p q) (ne : b ≠ p) : IA w' b o z := by
  have l := h.place.low
  obtain ⟨v, h1, hw⟩ := h.abs
  have key : ∀ i, w'.cell? ⟨b, i, none⟩ = w.cell? ⟨b, i, none⟩ := fun i => World.cell?_of_block (w := w) (hb.block b l ne)
  exact ⟨h.place.blk hb, (key o).trans h.neg, v, (key (o + 1)).trans h1, hw.keep (hb.kw hz)⟩

/-- a ratio in its block: n over d -/
structure RA (w : World) (p : Nat) (n d : Int) : Prop where
  num : IA w p 0 n
  den : IA w p 2 d
  pos : 0 < d
theorem RA.below {w w' : World} {p : Nat} {n d : Int} (h : RA w p n d) (hb : Below w.heap.size w w') : RA w' p n d := ⟨h.num.below hb, h.den.below hb, h.pos⟩
theorem RA.blk {w w' : World} {p b q : Nat} {n d : Int} (h : RA w p n d) (hb : Blk b w w') (hz : ZA w b q) (ne : p ≠ b) : RA w' p n d := ⟨h.num.blk hb hz ne, h.den.blk hb hz ne, h.pos⟩

set_option maxHeartbeats 1000000 in
theorem den_any (p : Nat) (n d : Int) (w : World) (h : RA w p n d) :
    Calls Tryz.prog 101 #[.pointer (some ⟨p, 0, none⟩)] w fun e w' => e = .returned (.pointer (some ⟨p, 2, none⟩)) ∧ w' = w := by
  obtain ⟨v, x1, x2⟩ := h.den.abs
  obtain ⟨q, c, rfl, -⟩ := id x2
  have hl := wd_pos_len (n := d.natAbs) (by have := h.pos; omega)
  have g1 : (((Bg.wd d.natAbs).length : Int) == 0) = false := by rw [beq_eq_false_iff_ne]; omega
  clear x2 h
  go_enter Tryz.func101, Tryz.ntmps101
  go_wp2
  go_ret
  exact ⟨rfl, rfl⟩

theorem ratio_via {n d n1 d1 n' d' : Int} (h1 : d1 ≠ 0) (e1 : n' * d1 = n1 * d') (e2 : n1 * d = n * d1) : n' * d = n * d' := by
  have : d1 * (n' * d) = d1 * (n * d') := by
    have a : d1 * (n' * d) = n' * d1 * d := by grind
    have b : d1 * (n * d') = n * d1 * d' := by grind
    rw [a, b, e1, ← e2]
    grind
  exact Int.eq_of_mul_eq_mul_left h1 this
theorem put_abs {w : World} {p G : Nat} {x y : Int} {q u : Value} (hx : IA w p 0 x) (hy : IA w p 2 y) (hq : WS w q (Bg.wd (x.natAbs / G))) (hu : WS w u (Bg.wd (y.natAbs / G))) (x0 : x ≠ 0) (g0 : 0 < G) (dx : G ∣ x.natAbs) (dy : G ∣ y.natAbs) (hy0 : 0 < y) :
    ∃ n' d' : Int, RA ((w.setCell ⟨p, 1, none⟩ q).setCell ⟨p, 3, none⟩ u) p n' d' ∧ n' * y = x * d' ∧ n'.natAbs ≤ x.natAbs ∧ d'.natAbs ≤ y.natAbs ∧ Blk p w ((w.setCell ⟨p, 1, none⟩ q).setCell ⟨p, 3, none⟩ u) := by
  have O1 : Out p 0 w (w.setCell ⟨p, 1, none⟩ q) := Out.set (.inr rfl)
  have O2 : Out p 2 (w.setCell ⟨p, 1, none⟩ q) ((w.setCell ⟨p, 1, none⟩ q).setCell ⟨p, 3, none⟩ u) := Out.set (.inr rfl)
  obtain ⟨a, ha⟩ := dx
  obtain ⟨b, hb⟩ := dy
  have ea : x.natAbs / G = a := by rw [ha]; exact Nat.mul_div_cancel_left _ g0
  have eb : y.natAbs / G = b := by rw [hb]; exact Nat.mul_div_cancel_left _ g0
  have a0 : a ≠ 0 := fun e => by rw [e, Nat.mul_zero] at ha; omega
  have b0 : b ≠ 0 := fun e => by rw [e, Nat.mul_zero] at hb; omega
  have la : a ≤ x.natAbs := by rw [← ea]; exact Nat.div_le_self _ _
  have lb : b ≤ y.natAbs := by rw [← eb]; exact Nat.div_le_self _ _
  rw [ea] at hq
  rw [eb] at hu
  obtain ⟨v1, c1, _⟩ := hx.abs
  obtain ⟨v3, c3, _⟩ := hy.abs
  have cx := hx.neg
  have cy := hy.neg
  have kw1 := O1.kw hx.place
  have kw2 := O2.kw (hy.place.out O1)
  have hxy : y = (G : Int) * b := by
    have : ((y.natAbs : Nat) : Int) = ((G * b : Nat) : Int) := by rw [hb]
    rw [Int.natCast_mul] at this
    omega
  have key : ∀ n' : Int, (decide (n' < 0) = decide (x < 0)) → n'.natAbs = a → n' * y = x * (b : Int) → ∃ n' d' : Int, RA ((w.setCell ⟨p, 1, none⟩ q).setCell ⟨p, 3, none⟩ u) p n' d' ∧ n' * y = x * d' ∧ n'.natAbs ≤ x.natAbs ∧ d'.natAbs ≤ y.natAbs ∧ Blk p w ((w.setCell ⟨p, 1, none⟩ q).setCell ⟨p, 3, none⟩ u) := fun n' h1 h2 h3 => by
    refine ⟨n', b, ⟨⟨(hx.place.out O1).out O2, ?_, q, ?_, ?_⟩, ⟨(hy.place.out O1).out O2, ?_, u, ?_, ?_⟩, by omega⟩, h3, by omega, by omega, O1.blk.trans O2.blk⟩
    · rw [h1]
      simp [go_sem, cx]
    · simp [go_sem, c1]
    · rw [h2]; exact (hq.keep kw1).keep kw2
    · rw [decide_eq_false (by omega : ¬ y < 0)] at cy
      rw [decide_eq_false (by omega)]
      simp [go_sem, cy]
    · simp [go_sem, c3]
    · rw [Int.natAbs_natCast]; exact (hu.keep kw1).keep kw2
  have hxa : ((x.natAbs : Nat) : Int) = (G : Int) * a := by rw [ha, Int.natCast_mul]
  rcases Int.lt_or_le x 0 with hn | hn
  · refine key (-(a : Int)) (by rw [decide_eq_true hn]; simp; omega) (by omega) ?_
    have hx2 : x = -((G : Int) * a) := by omega
    rw [hx2, hxy]
    grind
  · refine key (a : Int) (by rw [decide_eq_false (by omega), decide_eq_false (by omega)]) (by omega) ?_
    have hx2 : x = (G : Int) * a := by omega
    rw [hx2, hxy]
    grind
theorem Blk.drew {p : Nat} {w w' : World} (h : Blk p w w') : Blk p w w'.drew := h.trans (Blk.of (Below.refl _ _).drew)
end Go.Proofs.YtdkgapapdjefdaaGreatDoor
