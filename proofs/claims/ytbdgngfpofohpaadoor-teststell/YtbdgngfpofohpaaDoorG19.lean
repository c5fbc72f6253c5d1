/- Walks: the document's answer: Wrong, Rat (written by gen_br5.py). -/
import Derived.Test.YtbdgngfpofohpaaDoorG18
namespace Go.Proofs.YtbdgngfpofohpaaDoor
open Go.RowKit

set_option maxHeartbeats 400000 in
theorem rwrong_any (c x : Int) (w : World) :
    Calls Tryd.prog 35 #[.agg #[.int .i64 c, .int .i64 x]] w fun e w' => e = .returned (.int .i64 (Dm.wrongN c x)) ∧ Below w.heap.size w w' := by
  go_enter Tryd.func35, Tryd.ntmps35
  go_wp2
  all_goals
    go_ret
    refine ⟨ret_int ?_, (Below.refl _ _).alloc (Nat.le_refl _) _⟩
    unfold Dm.wrongN
    (repeat' split) <;> first | rfl | (exfalso; omega) | (simp_all; done)

theorem callNewInt (zs : Array Value) (w : World) : Sem.run Tryd.prog (callFunc 57 zs) w = .ok (.enter 57 zs) w := by simp [go_sem]

theorem callTen (zs : Array Value) (w : World) : Sem.run Tryd.prog (callFunc 55 zs) w = .ok (.enter 55 zs) w := by simp [go_sem]

theorem newInt_make {B : Nat} (x : Int) (h1 : -9223372036854775808 ≤ x) (h2 : x ≤ 9223372036854775807) (wx : World) : Calls Tryd.prog 57 #[.int .i64 x] wx fun e w' => ∃ b o, e = .returned (.pointer (some ⟨b, o, none⟩)) ∧ (pI x).is w' b o ∧ (b < B ∨ wx.heap.size ≤ b) ∧ Below wx.heap.size wx w' :=
  (newInt_any x wx h1 h2).mono fun _ _ q => ⟨_, 0, q.1, q.2.1, .inr (Nat.le_refl _), q.2.2⟩

theorem ten_make {B : Nat} (x : Int) (h1 : -200 ≤ x) (h2 : x ≤ 200) (wx : World) : Calls Tryd.prog 55 #[.int .i64 x] wx fun e w' => ∃ b o, e = .returned (.pointer (some ⟨b, o, none⟩)) ∧ (pI ((10 : Int) ^ x.toNat)).is w' b o ∧ (b < B ∨ wx.heap.size ≤ b) ∧ Below wx.heap.size wx w' :=
  (ten_any x wx h1 h2).mono fun _ _ q => ⟨_, 0, q.1, q.2.1, .inr (Nat.le_refl _), q.2.2⟩

theorem frac_put {b b1 o1 b2 o2 : Nat} {A B N D : Int} {w : World} (hz : ZA w b 2) (h1 : IA w b1 o1 A) (h2 : IA w b2 o2 B) (b0 : B ≠ 0) (la : Ln A ≤ 90000) (lb : Ln B ≤ 90000) (e : A * D = N * B) (l : B.natAbs ≤ D.natAbs := by exact Nat.le_refl _) :
    Calls Tryd.prog 56 #[.pointer (some ⟨b, 0, none⟩), .pointer (some ⟨b1, o1, none⟩), .pointer (some ⟨b2, o2, none⟩)] w fun e w' => e = .returned (.pointer (some ⟨b, 0, none⟩)) ∧ (pR N D).is w' b 0 ∧ Blk b w w' :=
  (setFrac_any b b1 o1 b2 o2 A B w hz h1 h2 b0 la lb).mono fun _ _ q => ⟨q.1, ⟨rfl, q.2.1.via b0 e l⟩, q.2.2⟩
section
variable {a : Act} {w : World} {d : Option Nat} {t : TypeId} {p : String} {af : Array Edge} {g : Option (Nat × Bool)}
theorem run_fldD1 {x : Operand} {b : Nat} (h : a.eval x = .pointer (some ⟨b, 0, none⟩)) : (execOp a.eval ⟨d, .fieldAddr 23 x 1, t, p, af, g⟩).run Tryd.prog w = .ok (.value (.pointer (some ⟨b, 1, none⟩))) w := by
  generalize a.eval = E at h ⊢
  simp [go_sem, h]
theorem run_ldI {x : Operand} {ad : Addr} {v : Int} (h : a.eval x = .pointer (some ad)) (hc : w.cell? ad = some (.int .i64 v)) : (execOp a.eval ⟨d, .load 3 x, t, p, af, g⟩).run Tryd.prog w = .ok (.value (.int .i64 v)) w := by
  generalize a.eval = E at h ⊢
  simp [go_sem, h, hc]
theorem run_ldD {x : Operand} {b : Nat} {u v : Int} (h : a.eval x = .pointer (some ⟨b, 0, none⟩)) (h0 : w.cell? ⟨b, 0, none⟩ = some (.int .i64 u)) (h1 : w.cell? ⟨b, 1, none⟩ = some (.int .i64 v)) : (execOp a.eval ⟨d, .load 23 x, t, p, af, g⟩).run Tryd.prog w = .ok (.value (.agg #[.int .i64 u, .int .i64 v])) w := by
  generalize a.eval = E at h ⊢
  simp [go_sem, h, h0, h1]
theorem run_negI {x : Operand} {v : Int} (wr : IntKind.i64.wrap (-v) = -v) (h : a.eval x = .int .i64 v) : (execOp a.eval ⟨d, .unOp .neg 3 x, t, p, af, g⟩).run Tryd.prog w = .ok (.value (.int .i64 (-v))) w := by
  generalize a.eval = E at h ⊢
  simp [go_sem, h, wr]
end

theorem fr28 {a : Act} (hs : a.tmps.size = 28) (hd : a.defers = []) : a = { tmps := #[G a 0, G a 1, G a 2, G a 3, G a 4, G a 5, G a 6, G a 7, G a 8, G a 9, G a 10, G a 11, G a 12, G a 13, G a 14, G a 15, G a 16, G a 17, G a 18, G a 19, G a 20, G a 21, G a 22, G a 23, G a 24, G a 25, G a 26, G a 27], defers := [] } := frame_is hs hd

set_option maxRecDepth 100000 in
set_option maxHeartbeats 4000000 in
theorem ratd_any (c x : Int) (w : World) (c1 : -9223372036854775808 ≤ c) (c2 : c ≤ 9223372036854775807) (h1 : -200 ≤ x) (h2 : x ≤ 200) :
    Calls Tryd.prog 39 #[.agg #[.int .i64 c, .int .i64 x]] w fun e w' => e = .returned (.pointer (some ⟨w.heap.size + 1, 0, none⟩)) ∧ RV w' (w.heap.size + 1) (c * (10 : Int) ^ x.toNat) ((10 : Int) ^ (-x).toNat) ∧ Below w.heap.size w w' := by
  have lc : Ln c ≤ 2 := Ln_small (by omega)
  have m1 := Ln_ten x.toNat
  have m2 := Ln_ten (-x).toNat
  have wr1 : IntKind.i64.wrap (-x) = -x := by rw [IntKind.wrap_i64]; omega
  have NB := below_new w (.cells #[.int .i64 c, .int .i64 x] 23)
  have NR := below_new (w.alloc (.cells #[.int .i64 c, .int .i64 x] 23)) (.cells #[.bool false, .slice none 0 0, .bool false, .slice none 0 0] 83)
  have z1 : ZA ((w.alloc (.cells #[.int .i64 c, .int .i64 x] 23)).alloc (.cells #[.bool false, .slice none 0 0, .bool false, .slice none 0 0] 83)) (w.heap.size + 1) 2 := by
    have := ZA.newR (w.alloc (.cells #[.int .i64 c, .int .i64 x] 23))
    rwa [show (w.alloc (.cells #[.int .i64 c, .int .i64 x] 23)).heap.size = w.heap.size + 1 by simp] at this
  have cb0 : ((w.alloc (.cells #[.int .i64 c, .int .i64 x] 23)).alloc (.cells #[.bool false, .slice none 0 0, .bool false, .slice none 0 0] 83)).cell? ⟨w.heap.size, 1, none⟩ = some (.int .i64 x) := by simp [go_sem]
  have S1 := hide (rsetInt64_any (w.heap.size + 1) c _ z1 c1 c2)
  have HB := hide (below_step NB NR)
  have HZ := hide z1
  clear NB NR z1
  go_enter Tryd.func39, Tryd.ntmps39
  go_wp2_with fail
  refine (unhide S1).mono ?_
  rintro e w1 ⟨rfl, r1, k1⟩
  have ss : w.heap.size + 2 ≤ w1.heap.size := by have := k1.size; simp at this; omega
  have cb1 : w1.cell? ⟨w.heap.size, 1, none⟩ = some (.int .i64 x) := (World.cell?_of_block (w := (w.alloc (.cells #[.int .i64 c, .int .i64 x] 23)).alloc (.cells #[.bool false, .slice none 0 0, .bool false, .slice none 0 0] 83)) (a := ⟨w.heap.size, 1, none⟩) (k1.block w.heap.size (by simp; omega) (by omega))).trans cb0
  have HB1 := hide ((unhide HB).trans (k1.below (by omega) (unhide HB).size))
  have HR1 := hide r1
  have N1 := below_new w1 (.cells #[.bool false, .slice none 0 0, .bool false, .slice none 0 0] 83)
  have T1 := hide (ten_at x (w1.alloc (.cells #[.bool false, .slice none 0 0, .bool false, .slice none 0 0] 83)) (w1.heap.size + 1) (by simp) h1 h2)
  have HR2 := hide (r1.below N1)
  have HB2 := hide (below_step (unhide HB1) N1)
  have HZ2 := hide (ZA.newR w1)
  have cb2 := (N1.cell (p := ⟨w.heap.size, 1, none⟩) (by show w.heap.size < w1.heap.size; omega)).trans cb1
  clear r1 k1 N1 S1 HB HZ cb0
  go_wp2_with fail
  refine (unhide T1).mono ?_
  rintro e w2 ⟨rfl, i2, hb2⟩
  have SI := hide (rsetInt_any w1.heap.size (w1.heap.size + 1) 0 ((10 : Int) ^ x.toNat) w2 ((unhide HZ2).below hb2) i2 (by omega))
  have s2 := hb2.size
  have lw2 : w1.heap.size < w2.heap.size := by simp at s2; omega
  have HR3 := hide ((unhide HR2).below hb2)
  have HB3 := hide (below_step (unhide HB2) hb2)
  have cb2' := (hb2.cell (p := ⟨w.heap.size, 1, none⟩) (by simp; omega)).trans cb2
  have HZ3 := hide ((unhide HZ2).below hb2)
  clear i2 hb2 T1 HR2 HB2 HZ2 cb1 cb2 s2
  go_wp2_with fail
  refine (unhide SI).mono ?_
  rintro e w3 ⟨rfl, r3, k3⟩
  have cb3 : w3.cell? ⟨w.heap.size, 1, none⟩ = some (.int .i64 x) := (World.cell?_of_block (w := w2) (a := ⟨w.heap.size, 1, none⟩) (k3.block w.heap.size (by omega) (by omega))).trans cb2'
  have HR4 := hide ((unhide HR3).kept (Kept.blk' k3 (unhide HZ3) (by omega) (by omega)))
  have HB4 := hide ((unhide HB3).trans (k3.below (by omega) (unhide HB3).size))
  have lb3 : w.heap.size < w3.heap.size := by have := k3.size; omega
  have lb4 : w.heap.size + 1 < w3.heap.size := by have := k3.size; omega
  have HP := hide r3
  clear r3 k3 SI HR3 HB3 HZ3 cb2'
  by_cases hx : x < 0
  · have HEQ : Hid ((1 : Int) * (10 : Int) ^ (-x).toNat = (10 : Int) ^ x.toNat * (10 : Int) ^ (-x).toNat) := hide (by rw [show x.toNat = 0 by omega, Int.pow_zero])
    have L1 : Ln 1 ≤ 2 := Ln_small (by decide)
    clear HP
    go_upto_region 4 with fail
    refine frame_intro (fun a => G a 1 = .pointer (some ⟨w.heap.size, 0, none⟩) ∧ G a 3 = .pointer (some ⟨w.heap.size + 1, 0, none⟩) ∧ a.tmps.size = 28 ∧ a.defers = []) ⟨rfl, rfl, rfl, rfl⟩ ?_
    rintro f0 ⟨s1, s3, hsz, hdf⟩
    refine region_any (I := RP w3 f0 28 [17, 18, 19, 20, 21, 22, 23, 4] 99 (fun _ => True) [.new 0 2, .ptr 1 (pI 1), .lit (.pointer (some ⟨w.heap.size, 1, none⟩)), .lit (.int .i64 x), .lit (.int .i64 (-x)), .ptr 5 (pI ((10 : Int) ^ (-x).toNat)), .ptr 0 (pR ((10 : Int) ^ x.toNat) ((10 : Int) ^ (-x).toNat)), .ptr 0 (pR ((10 : Int) ^ x.toNat) ((10 : Int) ^ (-x).toNat))]) (by kernel_rfl) ?wait ?step ?done ?start
    case wait => exact ⟨(by simp <;> rfl), (by simp <;> rfl), (by simp <;> rfl), (by simp <;> rfl), (by simp <;> rfl), (by simp <;> rfl), (by simp <;> rfl), (by simp <;> rfl), trivial⟩
    case start => exact RP.start hsz hdf ((Below.refl _ _).drew)
    case step =>
      refine ⟨?_, ?_, ?_, ?_, ?_, ?_, ?_, ?_, trivial⟩
      · rintro L fa wx h hcl hL hw2
        exact rp_new h (by decide) rfl rfl rfl (by decide) (by decide) (h.nogi (by decide)) rfl run_newR ZA.newR rfl
      · rintro L fa wx h hcl hL hw2
        exact rp_make h (by decide) rfl rfl rfl (by decide) (by decide) (h.nogi (by decide)) rfl (run_call1 rfl callNewInt) (newInt_make 1 (by omega) (by omega) wx) rfl
      · rintro L fa wx h hcl hL hw2
        exact rp_val h (by decide) rfl rfl rfl (by decide) (by decide) rfl (run_fldD1 (eval_G ((h.keep (s := 1) (by decide)).trans s1))) rfl
      · rintro L fa wx h hcl hL hw2
        exact rp_val h (by decide) rfl rfl rfl (by decide) (by decide) rfl (run_ldI (eval_G (show G fa 19 = .pointer (some ⟨w.heap.size, 1, none⟩) from h.lit (hw2 ⟨2, .data⟩ (by simp) rfl) rfl rfl)) (((h.old (h.nogi (by decide))).cell (p := ⟨w.heap.size, 1, none⟩) lb3).trans cb3)) rfl
      · rintro L fa wx h hcl hL hw2
        exact rp_val h (by decide) rfl rfl rfl (by decide) (by decide) rfl (run_negI wr1 (eval_G (show G fa 20 = .int .i64 x from h.lit (hw2 ⟨3, .data⟩ (by simp) rfl) rfl rfl))) rfl
      · rintro L fa wx h hcl hL hw2
        exact rp_make h (by decide) rfl rfl rfl (by decide) (by decide) (h.nogi (by decide)) rfl (run_call1 (eval_G (show G fa 21 = .int .i64 (-x) from h.lit (hw2 ⟨4, .data⟩ (by simp) rfl) rfl rfl)) callTen) (ten_make (-x) (by omega) (by omega) wx) rfl
      · rintro L fa wx h hcl hL hw2
        obtain ⟨b0, e0, z0, l0⟩ := h.new (h.nogi (by decide)) (hw2 ⟨0, .data⟩ (by simp) rfl) rfl rfl
        obtain ⟨b1, o1, e1, mm1⟩ := h.ptr (h.nogi (by decide)) (hw2 ⟨1, .data⟩ (by simp) rfl) rfl rfl
        obtain ⟨b2, o2, e2, mm2⟩ := h.ptr (h.nogi (by decide)) (hw2 ⟨5, .data⟩ (by simp) rfl) rfl rfl
        exact rp_put h (by decide) rfl rfl rfl (by decide) (by decide) (h.nogi (by decide)) rfl (run_call3 (eval_G e0) (eval_G e1) (eval_G e2) callFrac) (hw2 ⟨0, .data⟩ (by simp) rfl) rfl rfl e0 (frac_put z0 mm1 mm2 (pow_ne _) (by omega) (by omega) (unhide HEQ)) rfl (al_of (bad := [6, 7]) rfl (by
        intro k hk
        simp only [List.mem_cons, List.not_mem_nil, or_false] at hk
        rcases hk with rfl | rfl
        · exact hL
        · exact (Bool.eq_false_iff.2 fun hq => by have hz := (hcl 7 _ rfl hq ⟨6, .data⟩ (by simp) rfl); rw [hL] at hz; cases hz)))
      · rintro L fa wx h hcl hL hw2
        exact rp_copy h (by decide) rfl rfl rfl (by decide) (by decide) (h.nogi (by decide)) rfl (hw2 ⟨6, .data⟩ (by simp) rfl) rfl (run_asg rfl) rfl
    case done =>
      rintro L f1 w4 h hall
      have hno : L 99 = false := h.nogi (by decide)
      obtain ⟨b4, o4, q4, i4⟩ := h.ptr (i := 7) hno (hall 7 (by simp)) rfl rfl
      obtain ⟨rfl, i5⟩ : o4 = 0 ∧ RV w4 b4 ((10 : Int) ^ x.toNat) ((10 : Int) ^ (-x).toNat) := i4
      have q3 := (h.keep (s := 3) (by decide)).trans s3
      have HO := hide (h.old hno)
      have HP4 := hide i5
      have HR5 := hide ((unhide HR4).below (unhide HO))
      have HB5 := hide (below_step (unhide HB4) (unhide HO))
      rw [fr28 h.size h.defs, q3, q4]
      clear h hall q3 q4 i5 hno
      have MU := hide (rmul_any (w.heap.size + 1) (w.heap.size + 1) b4 c 1 ((10 : Int) ^ x.toNat) ((10 : Int) ^ (-x).toNat) w4 (unhide HR5).place (unhide HR5) (unhide HP4) (by omega) (pow_ne _) (by omega) (Nat.le_trans (Ln_small (x := 1) (by decide)) (by omega)) (by omega) (by omega))
      go_wp2_with fail
      refine (unhide MU).mono ?_
      rintro e wz ⟨rfl, rz, kz⟩
      have HRZ := hide rz
      have HBZ := hide ((unhide HB5).trans (kz.below (by omega) (unhide HB5).size))
      clear rz kz
      go_wp2
      go_ret
      exact ⟨rfl, by rw [← Int.one_mul ((10 : Int) ^ (-x).toNat)]; exact unhide HRZ, unhide HBZ⟩
  · have HP4 : Hid (RV w3 w1.heap.size ((10 : Int) ^ x.toNat) ((10 : Int) ^ (-x).toNat)) := hide (by rw [show (-x).toNat = 0 by omega, Int.pow_zero]; exact unhide HP)
    have MU := hide (rmul_any (w.heap.size + 1) (w.heap.size + 1) w1.heap.size c 1 ((10 : Int) ^ x.toNat) ((10 : Int) ^ (-x).toNat) w3 (unhide HR4).place (unhide HR4) (unhide HP4) (by omega) (pow_ne _) (by omega) (Nat.le_trans (Ln_small (x := 1) (by decide)) (by omega)) (by omega) (by omega))
    go_wp2_with fail
    refine (unhide MU).mono ?_
    rintro e wz ⟨rfl, rz, kz⟩
    have HRZ := hide rz
    have HBZ := hide ((unhide HB4).trans (kz.below (by omega) (unhide HB4).size))
    clear rz kz
    go_wp2
    go_ret
    exact ⟨rfl, by rw [← Int.one_mul ((10 : Int) ^ (-x).toNat)]; exact unhide HRZ, unhide HBZ⟩

end Go.Proofs.YtbdgngfpofohpaaDoor

/- Walks: the document's answer: Cmp (written by gen_br5.py). -/
namespace Go.Proofs.YtbdgngfpofohpaaDoor
open Go.RowKit

theorem callRatd (zs : Array Value) (w : World) : Sem.run Tryd.prog (callFunc 39 zs) w = .ok (.enter 39 zs) w := by simp [go_sem]

theorem callRCmp (zs : Array Value) (w : World) : Sem.run Tryd.prog (callFunc 41 zs) w = .ok (.enter 41 zs) w := by simp [go_sem]

theorem ratd_make {B : Nat} (c x : Int) (c1 : -9223372036854775808 ≤ c) (c2 : c ≤ 9223372036854775807) (h1 : -200 ≤ x) (h2 : x ≤ 200) (wx : World) : Calls Tryd.prog 39 #[.agg #[.int .i64 c, .int .i64 x]] wx fun e w' => ∃ b o, e = .returned (.pointer (some ⟨b, o, none⟩)) ∧ (pR (c * (10 : Int) ^ x.toNat) ((10 : Int) ^ (-x).toNat)).is w' b o ∧ (b < B ∨ wx.heap.size ≤ b) ∧ Below wx.heap.size wx w' :=
  (ratd_any c x wx c1 c2 h1 h2).mono fun _ _ q => ⟨_, 0, q.1, ⟨rfl, q.2.1⟩, .inr (by omega), q.2.2⟩

theorem rcmp_of {b1 o1 b2 o2 : Nat} {N1 N2 : Int} {k1 k2 : Nat} {w : World} (h1 : (pR N1 ((10 : Int) ^ k1)).is w b1 o1) (h2 : (pR N2 ((10 : Int) ^ k2)).is w b2 o2) (l1 : Ln N1 ≤ 20000) (l2 : Ln ((10 : Int) ^ k1) ≤ 20000) (l3 : Ln N2 ≤ 20000) (l4 : Ln ((10 : Int) ^ k2) ≤ 20000) :
    Calls Tryd.prog 41 #[.pointer (some ⟨b1, o1, none⟩), .pointer (some ⟨b2, o2, none⟩)] w fun e w' => e = .returned (.int .i64 (icmp (N1 * (10 : Int) ^ k2) (N2 * (10 : Int) ^ k1))) ∧ Below w.heap.size w w' := by
  obtain ⟨rfl, r1⟩ := h1
  obtain ⟨rfl, r2⟩ := h2
  exact rcmp_any b1 b2 N1 _ N2 _ w r1 r2 (Int.pow_pos (by decide)) (Int.pow_pos (by decide)) l1 l2 l3 l4

set_option maxHeartbeats 2000000 in
theorem rcmpd_no (c1 x1 c2 x2 : Int) (w : World) (h : (Dm.wrong2 c1 x1 c2 x2 != 0) = true) :
    Calls Tryd.prog 37 #[.agg #[.int .i64 c1, .int .i64 x1], .agg #[.int .i64 c2, .int .i64 x2]] w fun e w' => e = .returned (.tuple #[.int .i64 0, .int .i64 (Dm.wrong2 c1 x1 c2 x2)]) ∧ Below w.heap.size w w' := by
  obtain ⟨wB, hwB⟩ : ∃ wB, wB = ((w.alloc (.cells #[.int .i64 c1, .int .i64 x1] 23)).alloc (.cells #[.int .i64 c2, .int .i64 x2] 23)) := ⟨_, rfl⟩
  have NB : Below w.heap.size w wB := by rw [hwB]; exact below_step (below_new _ _) (below_new _ _)
  have sB : wB.heap.size = w.heap.size + 2 := by rw [hwB]; simp
  have p10 : wB.cell? ⟨w.heap.size, 0, none⟩ = some (.int .i64 c1) := by rw [hwB]; simp [go_sem]
  have p11 : wB.cell? ⟨w.heap.size, 1, none⟩ = some (.int .i64 x1) := by rw [hwB]; simp [go_sem]
  have p20 : wB.cell? ⟨w.heap.size + 1, 0, none⟩ = some (.int .i64 c2) := by rw [hwB]; simp [go_sem]
  have p21 : wB.cell? ⟨w.heap.size + 1, 1, none⟩ = some (.int .i64 x2) := by rw [hwB]; simp [go_sem]
  have W1 := hide (rwrong_any c1 x1 ((w.alloc (.cells #[.int .i64 c1, .int .i64 x1] 23)).alloc (.cells #[.int .i64 c2, .int .i64 x2] 23)))
  by_cases h1 : Dm.wrongN c1 x1 = 0
  · rw [Dm.wrong2_ok h1] at h ⊢
    have g1 : (Dm.wrongN c1 x1 != 0) = false := by rw [h1]; rfl
    clear h1
    go_enter Tryd.func37, Tryd.ntmps37
    go_wp2_with fail
    refine (unhide W1).mono ?_
    rw [← hwB]
    rintro e w1 ⟨rfl, hb1⟩
    have q10 := (hb1.cell (p := ⟨w.heap.size, 0, none⟩) (by show _ < wB.heap.size; simp only; omega)).trans p10
    have q11 := (hb1.cell (p := ⟨w.heap.size, 1, none⟩) (by show _ < wB.heap.size; simp only; omega)).trans p11
    have q20 := (hb1.cell (p := ⟨w.heap.size + 1, 0, none⟩) (by show _ < wB.heap.size; simp only; omega)).trans p20
    have q21 := (hb1.cell (p := ⟨w.heap.size + 1, 1, none⟩) (by show _ < wB.heap.size; simp only; omega)).trans p21
    have W2 := hide (rwrong_any c2 x2 w1)
    have HB := hide (below_step NB hb1)
    clear hb1 p10 p11 p20 p21
    go_wp2_with fail
    refine (unhide W2).mono ?_
    rintro e w2 ⟨rfl, hb2⟩
    have HB2 := hide (below_step (unhide HB) hb2)
    clear hb2
    go_wp2
    refine bodyPost_ret (v := .tuple #[.int .i64 0, .int .i64 (Dm.wrongN c2 x2)]) (by simp [results, Tryd.results37, go_sem]) rfl ?_
    exact ⟨rfl, unhide HB2⟩
  · rw [Dm.wrong2_no h1] at h ⊢
    clear h1
    go_enter Tryd.func37, Tryd.ntmps37
    go_wp2_with fail
    refine (unhide W1).mono ?_
    rw [← hwB]
    rintro e w1 ⟨rfl, hb1⟩
    have HB := hide (below_step NB hb1)
    clear hb1
    go_wp2
    refine bodyPost_ret (v := .tuple #[.int .i64 0, .int .i64 (Dm.wrongN c1 x1)]) (by simp [results, Tryd.results37, go_sem]) rfl ?_
    exact ⟨rfl, unhide HB⟩

set_option maxRecDepth 100000 in
set_option maxHeartbeats 4000000 in
theorem rcmpd_ok (c1 x1 c2 x2 : Int) (w : World) (h1 : Dm.wrongN c1 x1 = 0) (h2 : Dm.wrongN c2 x2 = 0) (a1 : -1000000000000000000 < c1) (a2 : c1 < 1000000000000000000) (a3 : -40 ≤ x1) (a4 : x1 ≤ 40) (b1 : -1000000000000000000 < c2) (b2 : c2 < 1000000000000000000) (b3 : -40 ≤ x2) (b4 : x2 ≤ 40) :
    Calls Tryd.prog 37 #[.agg #[.int .i64 c1, .int .i64 x1], .agg #[.int .i64 c2, .int .i64 x2]] w fun e w' => e = .returned (.tuple #[.int .i64 (icmp (c1 * (10 : Int) ^ x1.toNat * (10 : Int) ^ (-x2).toNat) (c2 * (10 : Int) ^ x2.toNat * (10 : Int) ^ (-x1).toNat)), .int .i64 0]) ∧ Below w.heap.size w w' := by
  obtain ⟨wB, hwB⟩ : ∃ wB, wB = ((w.alloc (.cells #[.int .i64 c1, .int .i64 x1] 23)).alloc (.cells #[.int .i64 c2, .int .i64 x2] 23)) := ⟨_, rfl⟩
  have NB : Below w.heap.size w wB := by rw [hwB]; exact below_step (below_new _ _) (below_new _ _)
  have sB : wB.heap.size = w.heap.size + 2 := by rw [hwB]; simp
  have p10 : wB.cell? ⟨w.heap.size, 0, none⟩ = some (.int .i64 c1) := by rw [hwB]; simp [go_sem]
  have p11 : wB.cell? ⟨w.heap.size, 1, none⟩ = some (.int .i64 x1) := by rw [hwB]; simp [go_sem]
  have p20 : wB.cell? ⟨w.heap.size + 1, 0, none⟩ = some (.int .i64 c2) := by rw [hwB]; simp [go_sem]
  have p21 : wB.cell? ⟨w.heap.size + 1, 1, none⟩ = some (.int .i64 x2) := by rw [hwB]; simp [go_sem]
  have W1 := hide (rwrong_any c1 x1 ((w.alloc (.cells #[.int .i64 c1, .int .i64 x1] 23)).alloc (.cells #[.int .i64 c2, .int .i64 x2] 23)))
  have g1 : (Dm.wrongN c1 x1 != 0) = false := by rw [h1]; rfl
  have g2 : (Dm.wrongN c2 x2 != 0) = false := by rw [h2]; rfl
  have lc1 : Ln c1 ≤ 2 := Ln_small (by omega)
  have lc2 : Ln c2 ≤ 2 := Ln_small (by omega)
  have t1 := Ln_ten x1.toNat
  have t2 := Ln_ten x2.toNat
  have t3 := Ln_ten (-x1).toNat
  have t4 := Ln_ten (-x2).toNat
  have t5 := Ln_mul c1 ((10 : Int) ^ x1.toNat)
  have t6 := Ln_mul c2 ((10 : Int) ^ x2.toNat)
  clear h1 h2
  go_enter Tryd.func37, Tryd.ntmps37
  go_wp2_with fail
  refine (unhide W1).mono ?_
  rw [← hwB]
  rintro e w1 ⟨rfl, hb1⟩
  have q10 := (hb1.cell (p := ⟨w.heap.size, 0, none⟩) (by show _ < wB.heap.size; simp only; omega)).trans p10
  have q11 := (hb1.cell (p := ⟨w.heap.size, 1, none⟩) (by show _ < wB.heap.size; simp only; omega)).trans p11
  have q20 := (hb1.cell (p := ⟨w.heap.size + 1, 0, none⟩) (by show _ < wB.heap.size; simp only; omega)).trans p20
  have q21 := (hb1.cell (p := ⟨w.heap.size + 1, 1, none⟩) (by show _ < wB.heap.size; simp only; omega)).trans p21
  have W2 := hide (rwrong_any c2 x2 w1)
  have HB := hide (below_step NB hb1)
  have s1 := hb1.size
  clear hb1 p10 p11 p20 p21
  go_wp2_with fail
  refine (unhide W2).mono ?_
  rintro e w2 ⟨rfl, hb2⟩
  have k10 := (hb2.cell (p := ⟨w.heap.size, 0, none⟩) (by show w.heap.size < w1.heap.size; omega)).trans q10
  have k11 := (hb2.cell (p := ⟨w.heap.size, 1, none⟩) (by show w.heap.size < w1.heap.size; omega)).trans q11
  have k20 := (hb2.cell (p := ⟨w.heap.size + 1, 0, none⟩) (by show w.heap.size + 1 < w1.heap.size; omega)).trans q20
  have k21 := (hb2.cell (p := ⟨w.heap.size + 1, 1, none⟩) (by show w.heap.size + 1 < w1.heap.size; omega)).trans q21
  have HB2 := hide (below_step (unhide HB) hb2)
  have s2 := hb2.size
  have lb1 : w.heap.size < w2.heap.size := by omega
  have lb2 : w.heap.size + 1 < w2.heap.size := by omega
  clear hb2 q10 q11 q20 q21 hwB
  go_upto_region 7 with fail
  refine frame_intro (fun a => G a 2 = .pointer (some ⟨w.heap.size, 0, none⟩) ∧ G a 3 = .pointer (some ⟨w.heap.size + 1, 0, none⟩) ∧ a.tmps.size = 23 ∧ a.defers = []) ⟨rfl, rfl, rfl, rfl⟩ ?_
  rintro f0 ⟨s2', s3, hsz, hdf⟩
  refine region_any (I := RP w2 f0 23 [18, 19, 20, 21, 22, 4, 5] 99 (fun _ => True) [.lit (.agg #[.int .i64 c1, .int .i64 x1]), .ptr 1 (pR (c1 * (10 : Int) ^ x1.toNat) ((10 : Int) ^ (-x1).toNat)), .lit (.agg #[.int .i64 c2, .int .i64 x2]), .ptr 3 (pR (c2 * (10 : Int) ^ x2.toNat) ((10 : Int) ^ (-x2).toNat)), .lit (.int .i64 (icmp (c1 * (10 : Int) ^ x1.toNat * (10 : Int) ^ (-x2).toNat) (c2 * (10 : Int) ^ x2.toNat * (10 : Int) ^ (-x1).toNat))), .lit (.int .i64 (icmp (c1 * (10 : Int) ^ x1.toNat * (10 : Int) ^ (-x2).toNat) (c2 * (10 : Int) ^ x2.toNat * (10 : Int) ^ (-x1).toNat))), .lit (.int .i64 0)]) (by kernel_rfl) ?wait ?step ?done ?start
  case wait => exact ⟨(by simp <;> rfl), (by simp <;> rfl), (by simp <;> rfl), (by simp <;> rfl), (by simp <;> rfl), (by simp <;> rfl), (by simp <;> rfl), trivial⟩
  case start => exact RP.start hsz hdf ((Below.refl _ _).drew)
  case step =>
    refine ⟨?_, ?_, ?_, ?_, ?_, ?_, ?_, trivial⟩
    · rintro L fa wx h hcl hL hw2
      exact rp_val h (by decide) rfl rfl rfl (by decide) (by decide) rfl (run_ldD (eval_G ((h.keep (s := 2) (by decide)).trans s2')) (((h.old (h.nogi (by decide))).cell (p := ⟨w.heap.size, 0, none⟩) lb1).trans k10) (((h.old (h.nogi (by decide))).cell (p := ⟨w.heap.size, 1, none⟩) lb1).trans k11)) rfl
    · rintro L fa wx h hcl hL hw2
      exact rp_make h (by decide) rfl rfl rfl (by decide) (by decide) (h.nogi (by decide)) rfl (run_call1 (eval_G (show G fa 18 = .agg #[.int .i64 c1, .int .i64 x1] from h.lit (hw2 ⟨0, .data⟩ (by simp) rfl) rfl rfl)) callRatd) (ratd_make c1 x1 (by omega) (by omega) (by omega) (by omega) wx) rfl
    · rintro L fa wx h hcl hL hw2
      exact rp_val h (by decide) rfl rfl rfl (by decide) (by decide) rfl (run_ldD (eval_G ((h.keep (s := 3) (by decide)).trans s3)) (((h.old (h.nogi (by decide))).cell (p := ⟨w.heap.size + 1, 0, none⟩) lb2).trans k20) (((h.old (h.nogi (by decide))).cell (p := ⟨w.heap.size + 1, 1, none⟩) lb2).trans k21)) rfl
    · rintro L fa wx h hcl hL hw2
      exact rp_make h (by decide) rfl rfl rfl (by decide) (by decide) (h.nogi (by decide)) rfl (run_call1 (eval_G (show G fa 20 = .agg #[.int .i64 c2, .int .i64 x2] from h.lit (hw2 ⟨2, .data⟩ (by simp) rfl) rfl rfl)) callRatd) (ratd_make c2 x2 (by omega) (by omega) (by omega) (by omega) wx) rfl
    · rintro L fa wx h hcl hL hw2
      obtain ⟨b0, o0, e0, mm0⟩ := h.ptr (h.nogi (by decide)) (hw2 ⟨1, .data⟩ (by simp) rfl) rfl rfl
      obtain ⟨b1, o1, e1, mm1⟩ := h.ptr (h.nogi (by decide)) (hw2 ⟨3, .data⟩ (by simp) rfl) rfl rfl
      exact rp_read h (by decide) rfl rfl rfl (by decide) (by decide) (h.nogi (by decide)) rfl (run_call2 (eval_G e0) (eval_G e1) callRCmp) (rcmp_of mm0 mm1 (by omega) (by omega) (by omega) (by omega)) rfl
    · rintro L fa wx h hcl hL hw2
      exact rp_val h (by decide) rfl rfl rfl (by decide) (by decide) rfl (run_asg (eval_G (show G fa 22 = .int .i64 (icmp (c1 * (10 : Int) ^ x1.toNat * (10 : Int) ^ (-x2).toNat) (c2 * (10 : Int) ^ x2.toNat * (10 : Int) ^ (-x1).toNat)) from h.lit (hw2 ⟨4, .data⟩ (by simp) rfl) rfl rfl))) rfl
    · rintro L fa wx h hcl hL hw2
      exact rp_val h (by decide) rfl rfl rfl (by decide) (by decide) rfl (run_asg rfl) rfl
  case done =>
    rintro L f1 w3 h hall
    have q4 : G f1 4 = .int .i64 (icmp (c1 * (10 : Int) ^ x1.toNat * (10 : Int) ^ (-x2).toNat) (c2 * (10 : Int) ^ x2.toNat * (10 : Int) ^ (-x1).toNat)) := h.lit (i := 5) (hall 5 (by simp)) rfl rfl
    have q5 : G f1 5 = .int .i64 0 := h.lit (i := 6) (hall 6 (by simp)) rfl rfl
    have HO := hide (h.old (h.nogi (by decide)))
    rw [fr23 h.size h.defs, q4, q5]
    clear h hall q4 q5
    go_wp2
    refine bodyPost_ret (v := .tuple #[.int .i64 (icmp (c1 * (10 : Int) ^ x1.toNat * (10 : Int) ^ (-x2).toNat) (c2 * (10 : Int) ^ x2.toNat * (10 : Int) ^ (-x1).toNat)), .int .i64 0]) (by simp [results, Tryd.results37, go_sem]) rfl ?_
    exact ⟨rfl, below_step (unhide HB2) (unhide HO)⟩

end Go.Proofs.YtbdgngfpofohpaaDoor
