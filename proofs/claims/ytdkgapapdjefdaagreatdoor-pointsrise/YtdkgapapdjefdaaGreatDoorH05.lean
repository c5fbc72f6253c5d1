/- Walks: div, the easy cases. -/
import Derived.Test.YtdkgapapdjefdaaGreatDoorH03
import Derived.Test.YtdkgapapdjefdaaGreatDoorH04
import Derived.Laws.CopyOwn
namespace Go.Proofs.YtdkgapapdjefdaaGreatDoor
open Go.RowKit

theorem wd_pos_len {n : Nat} (h : n ≠ 0) : 1 ≤ (Bg.wd n).length := by rw [Bg.wd_pos h]; simp
theorem wd_len2 {n : Nat} (h : (Bg.wd n).length ≤ 2) : n < 18446744073709551616 := by
  have := Bg.wd_lt n
  have h2 : 4294967296 ^ (Bg.wd n).length ≤ 4294967296 ^ 2 := Nat.pow_le_pow_right (by omega) h
  omega
theorem wd_len1 {n : Nat} (h : (Bg.wd n).length = 1) : n < 4294967296 := by
  have := Bg.wd_lt n
  rw [h] at this
  omega

set_option maxRecDepth 100000 in
set_option maxHeartbeats 1000000 in
theorem div_easy (u v : Value) (a b : Nat) (w : World) (hu : WS w u (Bg.wd a)) (hv : WS w v (Bg.wd b)) (ha : (Bg.wd a).length ≤ 100000) (hb : (Bg.wd b).length ≤ 100000) (b0 : b ≠ 0) (hc : a < b ∨ (Bg.wd a).length ≤ 2 ∨ (Bg.wd b).length = 1) :
    Calls Tryz.prog 157 #[u, v] w fun e w' => ∃ p q, e = .returned (.tuple #[p, q]) ∧ WS w' p (Bg.wd (a / b)) ∧ WS w' q (Bg.wd (a % b)) ∧ Below w.heap.size w w' := by
  obtain ⟨p, cap, rfl, _⟩ := id hu
  obtain ⟨q, cap2, rfl, _⟩ := id hv
  have CM := hide (cmp_any _ _ a b w hu hv)
  have HU := hide hu
  have HV := hide hv
  have hlb := wd_pos_len b0
  have g1 : (((Bg.wd b).length : Int) == 0) = false := by rw [beq_eq_false_iff_ne]; omega
  obtain ⟨la, hla⟩ : ∃ la, la = (Bg.wd a).length := ⟨_, rfl⟩
  obtain ⟨lb, hlb2⟩ : ∃ lb, lb = (Bg.wd b).length := ⟨_, rfl⟩
  have HLA := hide hla
  have HLB := hide hlb2
  rw [← hla] at ha hc CM ⊢
  rw [← hlb2] at hb hc hlb g1 CM ⊢
  clear hu hv hla hlb2
  go_enter Tryz.func157, Tryz.ntmps157
  go_wp2_with fail
  refine (unhide CM).mono ?_
  rintro e w1 ⟨rfl, hb1⟩
  have HB1 := hide hb1
  clear hb1 CM
  by_cases hab : a < b
  · rw [Bg.cmpN_lt hab]
    have TW := hide (twin_any _ a w1 ((unhide HU).below (unhide HB1)) (by rw [← unhide HLA]; exact ha))
    rw [← unhide HLA] at TW
    go_wp2_with fail
    refine (unhide TW).mono ?_
    rintro e w2 ⟨u2, rfl, hu2, hb2⟩
    have HU2 := hide hu2
    have HB2 := hide hb2
    clear hu2 hb2
    go_wp2
    refine bodyPost_ret (v := .tuple #[.slice none 0 0, u2]) (by simp [results, Tryz.results157, go_sem]) rfl ?_
    exact ⟨_, _, rfl, by rw [Nat.div_eq_of_lt hab, Bg.wd_zero]; exact WS.nil _, by rw [Nat.mod_eq_of_lt hab]; exact unhide HU2, below_via (unhide HB1) (unhide HB2)⟩
  · have hcm : ¬ Bg.cmpN a b < 0 := by
      rcases Nat.eq_or_lt_of_le (Nat.le_of_not_lt hab) with e | e
      · rw [Bg.cmpN_eq e.symm]; omega
      · rw [Bg.cmpN_gt e]; omega
    generalize Bg.cmpN a b = cm at *
    by_cases hl2 : la ≤ 2
    · have hl2' : (la : Int) ≤ 2 := by omega
      have hab2 : b ≤ a := by omega
      have A64 : a < 18446744073709551616 := wd_len2 (by rw [← unhide HLA]; exact hl2)
      have PA : Hid (∀ wx, Below w1.heap.size w1 wx → Calls Tryz.prog 169 #[.slice p la cap] wx fun e w' => e = .returned (.int .u64 (a : Int)) ∧ w' = wx) := hide fun wx hx => by
        have := plain_any _ a A64 wx (((unhide HU).below (unhide HB1)).below hx)
        rwa [← unhide HLA] at this
      have PB : Hid (∀ wx, Below w1.heap.size w1 wx → Calls Tryz.prog 169 #[.slice q lb cap2] wx fun e w' => e = .returned (.int .u64 (b : Int)) ∧ w' = wx) := hide fun wx hx => by
        have := plain_any _ b (by omega) wx (((unhide HV).below (unhide HB1)).below hx)
        rwa [← unhide HLB] at this
      have b0' : ((b : Int) == 0) = false := by rw [beq_eq_false_iff_ne]; omega
      have hq64 : a / b < 18446744073709551616 := Nat.lt_of_le_of_lt (Nat.div_le_self _ _) A64
      have hr64 : a % b < 18446744073709551616 := Nat.lt_of_le_of_lt (Nat.mod_le _ _) A64
      have W := hide (fun (wx : World) (x : Nat) (hx : x < 18446744073709551616) => words_any x hx wx)
      obtain ⟨Q, hQ⟩ : ∃ Q, Q = a / b := ⟨_, rfl⟩
      obtain ⟨R, hR⟩ : ∃ R, R = a % b := ⟨_, rfl⟩
      have t1 : ((a : Nat) : Int).tdiv (b : Int) = (Q : Int) := by rw [hQ]; rfl
      have t2 : ((a : Nat) : Int).tmod (b : Int) = (R : Int) := by rw [hR]; rfl
      rw [← hQ] at hq64
      rw [← hR] at hr64
      have wq : IntKind.u64.wrap (Q : Int) = (Q : Int) := by rw [IntKind.wrap_u64]; omega
      have wr : IntKind.u64.wrap (R : Int) = (R : Int) := by rw [IntKind.wrap_u64]; omega
      have HQ := hide hQ
      have HRR := hide hR
      clear hQ hR
      go_wp2_with fail
      refine (unhide PA _ (Below.refl _ _)).mono ?_
      rintro e w2 ⟨rfl, hw2⟩
      subst w2
      go_wp2_with fail
      refine (unhide PB _ (Below.refl _ _)).mono ?_
      rintro e w2 ⟨rfl, hw2⟩
      subst w2
      go_wp2_with fail
      go_region_with (
        go_at_call 158
        refine (unhide W _ _ (by assumption)).mono ?_
        rintro e wz ⟨vz, rfl, hvz, hbz⟩
        first
          | (have hvB := hvz
             replace hvA := hvA.below (below_via (by repeat (first | exact Below.refl _ _ | apply Below.drew)) hbz)
             clear hvz)
          | (have hvA := hvz
             clear hvz)
        replace hbz : Below w1.heap.size w1 wz := below_via (by repeat (first | assumption | exact Below.refl _ _ | apply Below.drew)) hbz)
      all_goals
        have HVA := hide hvA
        have HVB := hide hvB
        have HBZ := hide hbz
        clear hvA hvB hbz
        go_wp2
        refine bodyPost_ret (v := .tuple #[_, _]) (by simp [results, Tryz.results157, go_sem]; exact ⟨rfl, rfl⟩) rfl ?_
        rw [← unhide HQ, ← unhide HRR]
        exact ⟨_, _, rfl, (by first | exact (unhide HVA).below (by repeat (first | exact Below.refl _ _ | apply Below.drew)) | exact (unhide HVB).below (by repeat (first | exact Below.refl _ _ | apply Below.drew))), (by first | exact (unhide HVB).below (by repeat (first | exact Below.refl _ _ | apply Below.drew)) | exact (unhide HVA).below (by repeat (first | exact Below.refl _ _ | apply Below.drew))), below_via (unhide HB1) (by repeat (first | exact unhide HBZ | apply Below.drew))⟩
    · have hl2' : ¬ (la : Int) ≤ 2 := by omega
      obtain rfl : lb = 1 := by omega
      have B32 : b < 4294967296 := wd_len1 (unhide HLB).symm
      obtain ⟨b1, o1, e1, lb1, c1⟩ := WS.at ((unhide HV).below (unhide HB1)) 0 b (by rw [Bg.wd_one B32 b0]; rfl)
      cases e1
      have SM := hide (small_any _ a b w1 ((unhide HU).below (unhide HB1)) (by rw [← unhide HLA]; exact ha) (by omega) B32)
      rw [← unhide HLA] at SM
      have c2 : w1.cell? ⟨b1, o1, none⟩ = some (.int .u32 (b : Int)) := c1
      clear c1
      have hr32 : a % b < 4294967296 := Nat.lt_trans (Nat.mod_lt _ (by omega)) B32
      have TR : Hid (∀ wx, Calls Tryz.prog 159 #[.slice (some ⟨wx.heap.size, 0, none⟩) 1 1] (wx.alloc (.cells #[.int .u32 ((a % b : Nat) : Int)] 190)) fun e w' => ∃ u, e = .returned u ∧ WS w' u (Bg.wd (a % b)) ∧ Below wx.heap.size wx w') := hide fun wx => by
        have h := trim_any (.slice (some ⟨wx.heap.size, 0, none⟩) 1 1) [a % b] _ (WS.whole (RW.new wx [a % b]) (by intro y hy; simp at hy; omega) (Nat.le_refl _) (by simp))
        rw [show Bg.val [a % b] = a % b by simp [Bg.val]] at h
        refine Calls.mono h ?_
        rintro e w' ⟨u, rfl, hu, hb⟩
        exact ⟨u, rfl, hu, below_via (below_new _ _) hb⟩
      obtain ⟨R, hR⟩ : ∃ R, R = a % b := ⟨_, rfl⟩
      rw [← hR] at TR SM hr32
      have HRR := hide hR
      clear hR
      go_wp2_with fail
      refine (unhide SM).mono ?_
      rintro e w2 ⟨u2, rfl, hu2, hb2⟩
      have HU2 := hide hu2
      have HB2 := hide hb2
      clear hu2 hb2 c2
      go_wp2_with fail
      refine (unhide TR _).mono ?_
      rintro e w3 ⟨u3, rfl, hu3, hb3⟩
      have HU3 := hide hu3
      have HB3 := hide hb3
      clear hu3 hb3
      go_wp2
      refine bodyPost_ret (v := .tuple #[u2, u3]) (by simp [results, Tryz.results157, go_sem]) rfl ?_
      rw [← unhide HRR]
      exact ⟨_, _, rfl, (unhide HU2).below (unhide HB3), unhide HU3, below_via (unhide HB1) (below_via (unhide HB2) (unhide HB3))⟩
end Go.Proofs.YtdkgapapdjefdaaGreatDoor
