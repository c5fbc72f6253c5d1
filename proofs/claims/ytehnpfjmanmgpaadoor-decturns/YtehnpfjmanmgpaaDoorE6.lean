/- Walks: pointed, Print. -/
import Derived.Test.YtehnpfjmanmgpaaDoorE5
import Derived.Test.YtehnpfjmanmgpaaDoorE4
namespace Go.Proofs.YtehnpfjmanmgpaaDoor
open Go.RowKit

/-- a point ahead of the last p digits, noughts ahead where there are too few -/
def zL (l : List UInt8) (p : Nat) : List UInt8 := Lib.repeatL [48] (p + 1 - l.length) ++ l
def ptL (l : List UInt8) (p : Nat) : List UInt8 := (zL l p).take ((zL l p).length - p) ++ 46 :: (zL l p).drop ((zL l p).length - p)
def signL (b : Bool) (l : List UInt8) : List UInt8 := if b = true then 45 :: l else l
def magL (n : Nat) (x : Int) : List UInt8 := if 0 ≤ x then Lib.decDigits n ++ Lib.repeatL [48] x.toNat else ptL (Lib.decDigits n) (-x).toNat
def printL (c x : Int) : List UInt8 := signL (decide (c < 0)) (magL c.natAbs x)

theorem ba_ext {a b : ByteArray} (h : a.data.toList = b.data.toList) : a = b := by
  cases a with | mk x => cases b with | mk y => simpa using h
theorem mk_list (l : List UInt8) : (⟨l.toArray⟩ : ByteArray).data.toList = l := by simp
theorem mk_size (l : List UInt8) : (⟨l.toArray⟩ : ByteArray).size = l.length := by simp [ByteArray.size]

theorem pt_eq (l : List UInt8) (p : Nat) (K : ByteArray) (hK : K.data.toList = zL l p) (at' : Nat) (ha : at' = (zL l p).length - p) :
    K.extract 0 at' ++ ⟨#[46]⟩ ++ K.extract at' K.size = ⟨(ptL l p).toArray⟩ := by
  apply ba_ext
  rw [app_data, app_data, ext_take, ext_drop, mk_list, mk_list, mk_list, hK, ha]
  unfold ptL
  simp

set_option maxHeartbeats 1000000 in
theorem pointed_any (D : ByteArray) (p : Nat) (w : World) (hD : D.size ≤ 100) (hp1 : 1 ≤ p) (hp2 : p ≤ 100) :
    Calls Tryd.prog 18 #[.string D, .int .i64 (p : Int)] w fun e w' => e = .returned (.string ⟨(ptL D.data.toList p).toArray⟩) ∧ Below w.heap.size w w' := by
  obtain ⟨z, hz⟩ : ∃ z : Nat, z = p + 1 - D.size := ⟨_, rfl⟩
  have hz1 : max 0 ((p : Int) + 1 - (D.size : Int)) = (z : Int) := by omega
  have R := fun wx => repeat_any ⟨#[48]⟩ z wx (by omega) (by simp [ByteArray.size]; omega)
  obtain ⟨Z, hZ⟩ : ∃ Z : ByteArray, Z = ⟨(Lib.repeatL (⟨#[48]⟩ : ByteArray).data.toList z).toArray⟩ := ⟨_, rfl⟩
  rw [← hZ] at R
  have hZs : Z.size = z := by rw [hZ, mk_size, Lib.repeatL_length]; simp
  obtain ⟨K, hK⟩ : ∃ K : ByteArray, K = Z ++ D := ⟨_, rfl⟩
  have hKs : K.size = z + D.size := by rw [hK, ByteArray.size_append, hZs]
  have hKl : K.data.toList = zL D.data.toList p := by
    rw [hK, app_data, hZ, mk_list, hz]
    unfold zL
    rw [← Lib.size_eq]
  have HE := hide (pt_eq D.data.toList p K hKl (K.size - p) (by rw [← hKl, ← Lib.size_eq]))
  have HK := hide hK.symm
  have HZ1 := hide hz1
  replace R := hide R
  obtain ⟨m, hm⟩ : ∃ m : Nat, m = K.size - p := ⟨_, rfl⟩
  have HM : Hid ((Z.size : Int) + (D.size : Int) - (p : Int) = (m : Int)) := hide (by omega)
  rw [← hm] at HE
  have c1 : (0 : Int) ≤ (m : Int) := by omega
  have c2 : (m : Int) ≤ (K.size : Int) := by omega
  have hKb : K.size ≤ 300 := by omega
  have hZD : Z.size + D.size ≤ 300 := by omega
  clear hz hz1 hZ hZs hK hKs hKl hm
  go_enter Tryd.func18, Tryd.ntmps18
  go_wp2_with fail
  rw [unhide HZ1]
  refine (unhide R _).mono ?_
  rintro e w1 ⟨rfl, hb⟩
  have HB := hide hb
  clear hb
  go_wp2_with fail
  rw [unhide HK]
  go_wp2_with fail
  rw [unhide HM]
  go_region
  go_wp2
  go_ret
  refine ⟨?_, (unhide HB).drew⟩
  rw [← unhide HE]
  rfl

theorem two_cells {w w3 : World} {c x : Int} (hb : Below (w.alloc (.cells #[.int .i64 c, .int .i64 x] 23)).heap.size (w.alloc (.cells #[.int .i64 c, .int .i64 x] 23)) w3) :
    w3.cell? ⟨w.heap.size, 0, none⟩ = some (.int .i64 c) ∧ w3.cell? ⟨w.heap.size, 1, none⟩ = some (.int .i64 x) ∧ w.heap.size + 1 ≤ w3.heap.size ∧ Below w.heap.size w w3 := by
  obtain ⟨hc, hf⟩ := bcell hb
  have s := hb.size
  simp at s
  have hw : Below w.heap.size w (w.alloc (.cells #[.int .i64 c, .int .i64 x] 23)) := (Below.refl w.heap.size w).alloc (Nat.le_refl _) _
  refine ⟨?_, ?_, by omega, hw.trans (hb.mono (by simp))⟩
  all_goals (rw [hc _ _ (by simp)]; simp [go_sem])

set_option maxHeartbeats 400000 in
theorem print_no (c x : Int) (w : World) (h : (Dm.wrongN c x != 0) = true) :
    Calls Tryd.prog 6 #[.agg #[.int .i64 c, .int .i64 x]] w fun e w' => e = .returned (.tuple #[.string ⟨#[]⟩, .int .i64 (Dm.wrongN c x)]) ∧ Below w.heap.size w w' := by
  go_enter Tryd.func6, Tryd.ntmps6
  go_wp2_with fail
  refine (wrong_any c x _).mono ?_
  rintro e w1 ⟨rfl, hb⟩
  obtain ⟨t0, t1, hz, hw⟩ := two_cells hb
  clear hb
  go_wp2
  go_ret2
  exact ⟨rfl, hw⟩

theorem sign_eq (b : Bool) (l : List UInt8) (T : ByteArray) (hT : T.data.toList = l) : (b = true → (⟨#[45]⟩ : ByteArray) ++ T = ⟨(signL b l).toArray⟩) ∧ (b = false → T = ⟨(signL b l).toArray⟩) := by
  refine ⟨fun h => ?_, fun h => ?_⟩
  · apply ba_ext
    rw [app_data, mk_list, hT, h]
    rfl
  · apply ba_ext
    rw [mk_list, hT, h]
    rfl

theorem nDigits_le : ∀ (k n : Nat), n < 10 ^ (k + 1) → Lib.nDigits n ≤ k + 1
  | 0, n, h => by rw [Lib.nDigits_small (by simpa using h)]; omega
  | k + 1, n, h => by
    by_cases g : n < 10
    · rw [Lib.nDigits_small g]; omega
    · rw [Lib.nDigits_big g]
      have := nDigits_le k (n / 10) (by rw [Nat.pow_succ] at h; omega)
      omega
theorem nDigits_18 {n : Nat} (h : n < 1000000000000000000) : (Lib.decDigits n).length ≤ 18 := by
  rw [Lib.decDigits_length]
  exact nDigits_le 17 n (by simpa using h)

theorem keep2 {w wa wb : World} {c x : Int} (hb : Below wa.heap.size wa wb) (k : wa.cell? ⟨w.heap.size, 0, none⟩ = some (.int .i64 c) ∧ wa.cell? ⟨w.heap.size, 1, none⟩ = some (.int .i64 x) ∧ w.heap.size + 1 ≤ wa.heap.size ∧ Below w.heap.size w wa) :
    wb.cell? ⟨w.heap.size, 0, none⟩ = some (.int .i64 c) ∧ wb.cell? ⟨w.heap.size, 1, none⟩ = some (.int .i64 x) ∧ w.heap.size + 1 ≤ wb.heap.size ∧ Below w.heap.size w wb :=
  ⟨(hb.cell (p := ⟨w.heap.size, 0, none⟩) (by show w.heap.size < _; omega)).trans k.1, (hb.cell (p := ⟨w.heap.size, 1, none⟩) (by show w.heap.size < _; omega)).trans k.2.1, by have := hb.size; omega, k.2.2.2.trans (hb.mono (by omega))⟩

theorem size_45 (K : ByteArray) (h : K.size ≤ 100) : (⟨#[45]⟩ : ByteArray).size + K.size ≤ 200 := by
  have : (⟨#[45]⟩ : ByteArray).size = 1 := rfl
  omega

set_option maxHeartbeats 1000000 in
theorem print_ok (c x : Int) (w : World) (h : Dm.wrongN c x = 0) (htab : Lib.TabIs Tryd.prog w "internal/strconv.uint64pow10" .u64 Lib.pow10Tab) :
    Calls Tryd.prog 6 #[.agg #[.int .i64 c, .int .i64 x]] w fun e w' => e = .returned (.tuple #[.string ⟨(printL c x).toArray⟩, .int .i64 0]) ∧ Below w.heap.size w w' := by
  obtain ⟨p1, p2, p3, p4, _⟩ := Dm.wrong_ok h
  have H := hide h
  have hn : c.natAbs < 1000000000000000000 := by omega
  have hdl := nDigits_18 hn
  have TB := hide (Lib.tabBelow_of_tabIs htab)
  clear h htab
  have SZ := hide (fun wx => size_any c x wx p1 p2)
  have FU := hide (fun wx (hw : Below w.heap.size w wx) => formatUint_any c.natAbs (by omega) wx (unhide TB wx hw))
  obtain ⟨F, hF⟩ : ∃ F : ByteArray, F = ⟨(Lib.decDigits c.natAbs).toArray⟩ := ⟨_, rfl⟩
  rw [← hF] at FU
  have hFl : F.data.toList = Lib.decDigits c.natAbs := by rw [hF]
  have hFs : F.size ≤ 18 := by rw [Lib.size_eq, hFl]; exact hdl
  by_cases hx : 0 ≤ x
  · obtain ⟨z, hz⟩ : ∃ z : Nat, x = (z : Int) := ⟨x.toNat, by omega⟩
    subst hz
    have R := hide (fun wx => repeat_any ⟨#[48]⟩ z wx (by omega) (by simp [ByteArray.size]; omega))
    obtain ⟨Z, hZ⟩ : ∃ Z : ByteArray, Z = ⟨(Lib.repeatL (⟨#[48]⟩ : ByteArray).data.toList z).toArray⟩ := ⟨_, rfl⟩
    rw [← hZ] at R
    have hZs : Z.size = z := by rw [hZ, mk_size, Lib.repeatL_length]; simp
    obtain ⟨K, hK⟩ : ∃ K : ByteArray, K = F ++ Z := ⟨_, rfl⟩
    have hKl : K.data.toList = magL c.natAbs (z : Int) := by
      rw [hK, app_data, hFl, hZ, mk_list]
      unfold magL
      rw [if_pos hx, Int.toNat_natCast]
    have hKs : K.size ≤ 100 := by rw [hK, ByteArray.size_append]; omega
    have HK := hide hK.symm
    have hb0 : F.size + Z.size ≤ 100 := by omega
    have SG := hide (sign_eq (decide (c < 0)) _ K hKl)
    have hb1 := size_45 K hKs
    clear hF hFl hdl hn hZ hZs hK hKl
    by_cases hc : c < 0
    · have E := hide ((unhide SG).1 (by simpa using hc))
      rw [← unhide HK] at E
      clear SG
      go_enter Tryd.func6, Tryd.ntmps6
      go_wp2_with fail
      refine (wrong_any c (z : Int) _).mono ?_
      rintro e w1 ⟨rfl, hb⟩
      have k1 := two_cells hb
      rw [unhide H]
      clear hb
      have K1 := hide k1
      obtain ⟨t0, t1, hz1, hw⟩ := k1
      go_wp2_with fail
      refine (unhide SZ _).mono ?_
      rintro e w2 ⟨rfl, hb⟩
      replace K1 := keep2 hb (unhide K1)
      clear hb t0 t1 hz1 hw
      have k2 := K1
      clear K1
      have K1 := hide k2
      obtain ⟨t0, t1, hz1, hw⟩ := k2
      go_wp2_with fail
      refine (unhide FU _ hw).mono ?_
      rintro e w3 ⟨rfl, hb⟩
      replace K1 := keep2 hb (unhide K1)
      clear hb t0 t1 hz1 hw
      have k3 := K1
      clear K1
      have K1 := hide k3
      obtain ⟨t0, t1, hz1, hw⟩ := k3
      go_wp2_with fail
      refine (unhide R _).mono ?_
      rintro e w4 ⟨rfl, hb⟩
      replace K1 := keep2 hb (unhide K1)
      clear hb t0 t1 hz1 hw
      have k4 := K1
      clear K1
      obtain ⟨t0, t1, hz1, hw⟩ := k4
      go_wp2
      go_ret2
      refine ⟨?_, hw⟩
      rw [show printL c (z : Int) = signL (decide (c < 0)) (magL c.natAbs (z : Int)) from rfl, ← unhide E]
      rfl
    · have E := hide ((unhide SG).2 (by simpa using hc))
      rw [← unhide HK] at E
      clear SG
      go_enter Tryd.func6, Tryd.ntmps6
      go_wp2_with fail
      refine (wrong_any c (z : Int) _).mono ?_
      rintro e w1 ⟨rfl, hb⟩
      have k1 := two_cells hb
      rw [unhide H]
      clear hb
      have K1 := hide k1
      obtain ⟨t0, t1, hz1, hw⟩ := k1
      go_wp2_with fail
      refine (unhide SZ _).mono ?_
      rintro e w2 ⟨rfl, hb⟩
      replace K1 := keep2 hb (unhide K1)
      clear hb t0 t1 hz1 hw
      have k2 := K1
      clear K1
      have K1 := hide k2
      obtain ⟨t0, t1, hz1, hw⟩ := k2
      go_wp2_with fail
      refine (unhide FU _ hw).mono ?_
      rintro e w3 ⟨rfl, hb⟩
      replace K1 := keep2 hb (unhide K1)
      clear hb t0 t1 hz1 hw
      have k3 := K1
      clear K1
      have K1 := hide k3
      obtain ⟨t0, t1, hz1, hw⟩ := k3
      go_wp2_with fail
      refine (unhide R _).mono ?_
      rintro e w4 ⟨rfl, hb⟩
      replace K1 := keep2 hb (unhide K1)
      clear hb t0 t1 hz1 hw
      have k4 := K1
      clear K1
      obtain ⟨t0, t1, hz1, hw⟩ := k4
      go_wp2
      go_ret2
      refine ⟨?_, hw⟩
      rw [show printL c (z : Int) = signL (decide (c < 0)) (magL c.natAbs (z : Int)) from rfl, ← unhide E]
      rfl
  · obtain ⟨p, hp⟩ : ∃ p : Nat, x = -(p : Int) := ⟨(-x).toNat, by omega⟩
    subst hp
    have R := hide (fun wx => pointed_any F p wx (by omega) (by omega) (by omega))
    obtain ⟨K, hK⟩ : ∃ K : ByteArray, K = ⟨(ptL F.data.toList p).toArray⟩ := ⟨_, rfl⟩
    rw [← hK] at R
    have hKl : K.data.toList = magL c.natAbs (-(p : Int)) := by
      rw [hK, mk_list, hFl]
      unfold magL
      rw [if_neg hx, show (- -(p : Int)).toNat = p by omega]
    have hKs : K.size ≤ 100 := by
      rw [hK, mk_size]
      unfold ptL zL
      simp [Lib.repeatL_length]
      omega
    have SG := hide (sign_eq (decide (c < 0)) _ K hKl)
    have hb1 := size_45 K hKs
    clear hF hFl hdl hn hK hKl
    by_cases hc : c < 0
    · have E := hide ((unhide SG).1 (by simpa using hc))
      clear SG
      go_enter Tryd.func6, Tryd.ntmps6
      go_wp2_with fail
      refine (wrong_any c (-(p : Int)) _).mono ?_
      rintro e w1 ⟨rfl, hb⟩
      have k1 := two_cells hb
      rw [unhide H]
      clear hb
      have K1 := hide k1
      obtain ⟨t0, t1, hz1, hw⟩ := k1
      go_wp2_with fail
      refine (unhide SZ _).mono ?_
      rintro e w2 ⟨rfl, hb⟩
      replace K1 := keep2 hb (unhide K1)
      clear hb t0 t1 hz1 hw
      have k2 := K1
      clear K1
      have K1 := hide k2
      obtain ⟨t0, t1, hz1, hw⟩ := k2
      go_wp2_with fail
      refine (unhide FU _ hw).mono ?_
      rintro e w3 ⟨rfl, hb⟩
      replace K1 := keep2 hb (unhide K1)
      clear hb t0 t1 hz1 hw
      have k3 := K1
      clear K1
      have K1 := hide k3
      obtain ⟨t0, t1, hz1, hw⟩ := k3
      go_wp2_with fail
      refine (unhide R _).mono ?_
      rintro e w4 ⟨rfl, hb⟩
      replace K1 := keep2 hb (unhide K1)
      clear hb t0 t1 hz1 hw
      have k4 := K1
      clear K1
      obtain ⟨t0, t1, hz1, hw⟩ := k4
      go_wp2
      go_ret2
      refine ⟨?_, hw⟩
      rw [show printL c (-(p : Int)) = signL (decide (c < 0)) (magL c.natAbs (-(p : Int))) from rfl, ← unhide E]
      rfl
    · have E := hide ((unhide SG).2 (by simpa using hc))
      clear SG
      go_enter Tryd.func6, Tryd.ntmps6
      go_wp2_with fail
      refine (wrong_any c (-(p : Int)) _).mono ?_
      rintro e w1 ⟨rfl, hb⟩
      have k1 := two_cells hb
      rw [unhide H]
      clear hb
      have K1 := hide k1
      obtain ⟨t0, t1, hz1, hw⟩ := k1
      go_wp2_with fail
      refine (unhide SZ _).mono ?_
      rintro e w2 ⟨rfl, hb⟩
      replace K1 := keep2 hb (unhide K1)
      clear hb t0 t1 hz1 hw
      have k2 := K1
      clear K1
      have K1 := hide k2
      obtain ⟨t0, t1, hz1, hw⟩ := k2
      go_wp2_with fail
      refine (unhide FU _ hw).mono ?_
      rintro e w3 ⟨rfl, hb⟩
      replace K1 := keep2 hb (unhide K1)
      clear hb t0 t1 hz1 hw
      have k3 := K1
      clear K1
      have K1 := hide k3
      obtain ⟨t0, t1, hz1, hw⟩ := k3
      go_wp2_with fail
      refine (unhide R _).mono ?_
      rintro e w4 ⟨rfl, hb⟩
      replace K1 := keep2 hb (unhide K1)
      clear hb t0 t1 hz1 hw
      have k4 := K1
      clear K1
      obtain ⟨t0, t1, hz1, hw⟩ := k4
      go_wp2
      go_ret2
      refine ⟨?_, hw⟩
      rw [show printL c (-(p : Int)) = signL (decide (c < 0)) (magL c.natAbs (-(p : Int))) from rfl, ← unhide E]
      rfl
end Go.Proofs.YtehnpfjmanmgpaaDoor
