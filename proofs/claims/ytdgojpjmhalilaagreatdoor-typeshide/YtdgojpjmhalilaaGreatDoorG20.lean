/- Walks: typedWith, out of what typed tells. -/
import Derived.Test.YtdgojpjmhalilaaGreatDoorG18
import Derived.Test.YtdgojpjmhalilaaGreatDoorG19
import Derived.BigRegion
import Derived.Test.YtdgojpjmhalilaaGreatDoorG16
import Derived.Test.YtdgojpjmhalilaaGreatDoorG17
namespace Go.Proofs.YtdgojpjmhalilaaGreatDoor
open Go.RowKit Go.MapKept

/-- what typed tells of an expression -/
def TypedC (x : XT) : Prop := ∀ (B lo bt bn bf : Nat) (E : Ev) (M : Nat) (w : World) (cs : Array Value), XMem B w x cs → x.ok → TyS B lo bt bn bf E M w → M + x.size ≤ 50000 →
  Calls Tryz.prog 10 #[.pointer (some ⟨bt, 0, none⟩), .agg cs] w fun e w' => e = .returned (.tuple #[sh (tyF x E).2, .int .i64 (tyF x E).1]) ∧ MapF bn (envV E) w' ∧ But bn w w'

theorem But.drew {p : Nat} (w : World) : But p w w.drew := ⟨rfl, rfl, rfl, Nat.le_refl _, fun _ _ _ => rfl⟩
theorem XMem.nine {B : Nat} {w : World} {x : XT} {cs : Array Value} (h : XMem B w x cs) : ∃ u0 u1 u2 u3 u4 u5 u6 u7 u8, cs = #[u0, u1, u2, u3, u4, u5, u6, u7, u8] := by
  cases x with
  | mk k v s ks =>
    rw [XMem] at h
    obtain ⟨_, _, vk, vy, vc, vx, vt, va, vn, vp, a, cap, hx, _⟩ := h
    exact ⟨_, _, _, _, _, _, _, _, _, hx⟩

set_option maxRecDepth 100000 in
set_option maxHeartbeats 8000000 in
theorem typedWith_any (x : XT) (IH : TypedC x) {B lo bt bn bf : Nat} {E : Ev} {M : Nat} {w : World} {cs : Array Value} (S : TyS B lo bt bn bf E M w) (s : ByteArray) (a : Sp) (hx : XMem B w x cs) (hok : x.ok) (ha : a.n ≤ M) (hM : M + x.size ≤ 50000) :
    Calls Tryz.prog 43 #[.pointer (some ⟨bt, 0, none⟩), .string s, sh a, .agg cs] w fun e w' => e = .returned (.tuple #[sh (tyF x (E.upd s (some a))).2, .int .i64 (tyF x (E.upd s (some a))).1]) ∧ MapF bn (envV E) w' ∧ But bn w w' := by
  have hlo := S.lowB
  have hbn := S.names.low
  have hbt := S.box.low
  have hnt : bn ≠ bt := by have := S.lon; have := S.lot; omega
  obtain ⟨u0, u1, u2, u3, u4, u5, u6, u7, u8, rfl⟩ := hx.nine
  obtain ⟨o, ho⟩ : ∃ o : Sp, o = (E s).getD ⟨0, 0⟩ := ⟨_, rfl⟩
  obtain ⟨kn, hkn⟩ : ∃ kn : Bool, kn = (E s).isSome := ⟨_, rfl⟩
  have HO : Hid ((kn = true ∧ E s = some o) ∨ (kn = false ∧ E s = none)) := hide (by
    rw [ho, hkn]
    cases E s with
    | none => exact .inr ⟨rfl, rfl⟩
    | some q => exact .inl ⟨rfl, rfl⟩)
  -- the world ahead of the look-up
  obtain ⟨w0, hw0⟩ : ∃ w0, w0 = ((w.alloc (.cells #[.int .i64 (a.n : Int), .int .i64 a.k] 47)).alloc (.cells #[u0, u1, u2, u3, u4, u5, u6, u7, u8] 29)).alloc (.cells #[.int .i64 0, .int .i64 0] 47) := ⟨_, rfl⟩
  have B0 : Below w.heap.size w w0 := by rw [hw0]; exact (below2 w _ _).alloc (by simp; omega) _
  have z0 : w0.heap.size = w.heap.size + 1 + 1 + 1 := by rw [hw0]; simp
  have hlk : (Instr.lookup 57 (.map (some bn)) (.string s) true).run Tryz.prog w0 = .ok (.tuple #[sh o, .bool kn]) w0 := by
    have N0 := S.names.keep B0
    cases hE : E s with
    | none =>
      rw [ho, hkn, hE]
      exact N0.miss Tryz.underlying57 Tryz.underlying9 (zero_sh _) (by unfold envV; rw [hE]; rfl)
    | some q =>
      rw [ho, hkn, hE]
      exact N0.look Tryz.underlying57 Tryz.underlying9 (by unfold envV; rw [hE]; rfl)
  have b0 := (S.box.keep B0 S.box.low).at0
  rw [hw0] at hlk b0
  -- the world ahead of the update
  obtain ⟨w1, hw1⟩ : ∃ w1, w1 = w0.alloc (.cells #[.int .i64 (o.n : Int), .int .i64 o.k] 47) := ⟨_, rfl⟩
  have B1 : Below w.heap.size w w1 := by rw [hw1]; exact B0.alloc B0.size _
  have z1 : w1.heap.size = w.heap.size + 1 + 1 + 1 + 1 := by rw [hw1]; simp [z0]
  have X6 : Bx2 w1 w.heap.size (.int .i64 (a.n : Int)) (.int .i64 a.k) := by
    rw [hw1, hw0]
    exact (((Bx2.new w 47 _ _).keep ((Below.refl _ _).alloc (Nat.le_refl _) _) (by simp)).keep ((Below.refl _ _).alloc (Nat.le_refl _) _) (by simp; omega)).keep ((Below.refl _ _).alloc (Nat.le_refl _) _) (by simp; omega)
  have X7 : V9 w1 (w.heap.size + 1) u0 u1 u2 u3 u4 u5 u6 u7 u8 := by
    rw [hw1, hw0]
    have := ((V9.new (w.alloc (.cells #[.int .i64 (a.n : Int), .int .i64 a.k] 47)) 29 u0 u1 u2 u3 u4 u5 u6 u7 u8).keep ((Below.refl _ _).alloc (Nat.le_refl _) (.cells #[.int .i64 0, .int .i64 0] 47)) (by simp)).keep ((Below.refl _ _).alloc (Nat.le_refl _) (.cells #[.int .i64 (o.n : Int), .int .i64 o.k] 47)) (by simp)
    simpa using this
  have X8 : Bx2 w1 (w.heap.size + 1 + 1) (.int .i64 0) (.int .i64 0) := by
    rw [hw1, hw0]
    have := (Bx2.new ((w.alloc (.cells #[.int .i64 (a.n : Int), .int .i64 a.k] 47)).alloc (.cells #[u0, u1, u2, u3, u4, u5, u6, u7, u8] 29)) 47 (.int .i64 0) (.int .i64 0)).keep ((Below.refl _ _).alloc (Nat.le_refl _) (.cells #[.int .i64 (o.n : Int), .int .i64 o.k] 47)) (by simp)
    simpa using this
  have X10 : Bx2 w1 (w.heap.size + 1 + 1 + 1) (.int .i64 (o.n : Int)) (.int .i64 o.k) := by
    rw [hw1]
    have := Bx2.new w0 47 (.int .i64 (o.n : Int)) (.int .i64 o.k)
    rw [z0] at this
    exact this
  have S1 := S.keep B1
  have x1 := hide (XMem.below (B1.mono (Nat.le_trans hlo (Nat.le_of_lt hbn))) hx)
  -- the update
  obtain ⟨w2, hput, N2, Bt2⟩ := (S1.names.keep ((Below.refl w1.heap.size w1).drew)).put Tryz.underlying57 Tryz.underlying9 s (sh a)
  have Bt2' : But bn w1 w2 := (But.drew w1).trans Bt2
  rw [show updV (envV E) s (some (sh a)) = envV (E.upd s (some a)) from envV_upd E s (some a)] at N2
  have S2 : TyS B lo bt bn bf (E.upd s (some a)) M w2 := S1.but Bt2' N2 (S.bd.upd s (some a) (fun b hb => by cases hb; exact ha))
  have C := hide (IH B lo bt bn bf (E.upd s (some a)) M w2 _ (XMem.below (Bt2'.below hlo (by omega)) (unhide x1)) hok S2 hM)
  have HX8 := hide (X8.but Bt2' (by omega))
  have HX10 := hide (X10.but Bt2' (by omega))
  have HX7 := hide (X7.but Bt2' (by omega))
  have HBt := hide ((But.of (p := bn) B1).trans Bt2')
  have HS := hide S2
  have b1 := S1.box.at0
  have c60 := X6.at0
  have c61 := X6.at1
  generalize tyF x (E.upd s (some a)) = r at *
  obtain ⟨r1, r2⟩ := r
  simp only at C ⊢
  have hz2 := Bt2'.size
  rw [z1] at hz2
  clear S S1 S2 N2 Bt2 Bt2' X6 X7 X8 X10 B0 B1 IH hx x1 hok ho hkn
  go_enter Tryz.func43, Tryz.ntmps43
  go_upto_region 2 with fail
  rw [← hw0, ← hw1]
  clear hw0 hw1 hlk b0
  go_region
  obtain ⟨d0, d1, d2, d3, d4, d5, d6, d7, d8⟩ := (unhide HX7).tell
  have l7 := (unhide HX7).low
  clear hput b1 c60 c61 z1 HX7
  go_wp2_with fail
  refine (unhide C).mono ?_
  rintro e w3 ⟨rfl, N3, Bt3⟩
  have S3 := (unhide HS).but Bt3 N3 (unhide HS).bd
  have Y8 := (unhide HX8).but Bt3 (by omega)
  have Y10 := (unhide HX10).but Bt3 (by omega)
  have HBt3 := hide ((unhide HBt).trans Bt3)
  have hz3 : w.heap.size + 1 + 1 + 1 + 1 ≤ w3.heap.size := Nat.le_trans hz2 Bt3.size
  clear C HS HX8 HX10 HBt d0 d1 d2 d3 d4 d5 d6 d7 d8 l7 Bt3 hz2 z0
  obtain ⟨w4, hw4⟩ : ∃ w4, w4 = w3.alloc (.cells #[.int .i64 (r2.n : Int), .int .i64 r2.k] 47) := ⟨_, rfl⟩
  have B4 : Below w3.heap.size w3 w4 := by rw [hw4]; exact (Below.refl _ _).alloc (Nat.le_refl _) _
  have X12 : Bx2 w4 w3.heap.size (.int .i64 (r2.n : Int)) (.int .i64 r2.k) := by rw [hw4]; exact Bx2.new w3 _ _ _
  have S4 := S3.keep B4
  have hfin : ∀ w5, MapF bn (envV E) w5 → But bn w4 w5 → Bx2 w5 w3.heap.size (.int .i64 (r2.n : Int)) (.int .i64 r2.k) ∧ Bx2 w5 (w.heap.size + 1 + 1) (.int .i64 0) (.int .i64 0) ∧ MapF bn (envV E) (put2 w5 (w.heap.size + 1 + 1) (.int .i64 (r2.n : Int)) (.int .i64 r2.k)) ∧ But bn w (put2 w5 (w.heap.size + 1 + 1) (.int .i64 (r2.n : Int)) (.int .i64 r2.k)) := fun w5 n5 b5 => by
    have p5 : But (w.heap.size + 1 + 1) w5 (put2 w5 (w.heap.size + 1 + 1) (.int .i64 (r2.n : Int)) (.int .i64 r2.k)) := But.set.trans But.set
    refine ⟨X12.but b5 (by omega), (Y8.keep B4 Y8.low).but b5 (by omega), n5.but p5 (by omega), ?_⟩
    have q := ((unhide HBt3).trans (But.of (p := bn) B4)).trans b5
    exact q.on (p5.below (by omega) q.size)
  have FIN := hide hfin
  have Y10' := Y10.keep B4 Y10.low
  have e0 := Y10'.at0
  have e1 := Y10'.at1
  have b4 := S4.box.at0
  have Y12 := X12.at0
  have Y13 := X12.at1
  clear hfin
  rcases unhide HO with ⟨rfl, hE⟩ | ⟨rfl, hE⟩
  · obtain ⟨w5, hput, N5, Bt5⟩ := (S4.names.keep ((Below.refl w4.heap.size w4).drew)).put Tryz.underlying57 Tryz.underlying9 s (sh o)
    rw [show updV (envV (E.upd s (some a))) s (some (sh o)) = envV ((E.upd s (some a)).upd s (some o)) from envV_upd _ s (some o), ← hE, Ev.back] at N5
    obtain ⟨g12, g8, nf, bf'⟩ := unhide FIN w5 N5 ((But.drew w4).trans Bt5)
    have HN := hide nf
    have HF := hide bf'
    have R := g8.put (.int .i64 (r2.n : Int)) (.int .i64 r2.k)
    have r0 := hide R.at0
    have r1' := hide R.at1
    clear nf bf' N5 Bt5 N3 S3 S4 Y8 Y10 X12 B4 FIN HO hE Y10' R HBt3
    go_upto_region 5 with fail
    rw [← hw4]
    clear hw4
    go_region
    have f0 := g12.at0
    have f1 := g12.at1
    have h0 := g8.at0
    have h1 := g8.at1
    have t0 := g8.th0
    have t1 := g8.th1
    have lx := g8.low
    clear hput e0 e1 b4 Y12 Y13 g12 g8
    go_wp2
    refine bodyPost_ret (v := .tuple #[sh r2, .int .i64 r1]) (by simp [results, Tryz.results43, go_sem, unhide r0, unhide r1']) rfl ⟨rfl, unhide HN, unhide HF⟩
  · obtain ⟨w5, hdel0, N5, Bt5⟩ := S4.names.del Tryz.underlying57 Tryz.underlying9 s 0 #[57, 9] rfl
    have hdel : ∀ ty, (Builtin.delete_ #[57, 9] ty #[.map (some bn), .string s]).run Tryz.prog w4 = .ok (.tuple #[]) w5 := fun _ => hdel0
    rw [show updV (envV (E.upd s (some a))) s none = envV ((E.upd s (some a)).upd s none) from envV_upd _ s none, ← hE, Ev.back] at N5
    obtain ⟨g12, g8, nf, bf'⟩ := unhide FIN w5 N5 Bt5
    have HN := hide nf
    have HF := hide bf'
    have R := g8.put (.int .i64 (r2.n : Int)) (.int .i64 r2.k)
    have r0 := hide R.at0
    have r1' := hide R.at1
    have f0 := g12.at0
    have f1 := g12.at1
    have h0 := g8.at0
    have h1 := g8.at1
    have t0 := g8.th0
    have t1 := g8.th1
    have lx := g8.low
    rw [hw4] at hdel b4
    clear nf bf' N5 Bt5 N3 S3 S4 Y8 Y10 X12 B4 FIN HO hE Y10' R HBt3 hdel0 hw4 g12 g8 e0 e1 Y12 Y13
    go_wp2
    refine bodyPost_ret (v := .tuple #[sh r2, .int .i64 r1]) (by simp [results, Tryz.results43, go_sem, unhide r0, unhide r1']) rfl ⟨rfl, unhide HN, unhide HF⟩
end Go.Proofs.YtdgojpjmhalilaaGreatDoor

/- Walks: ofKids, out of what typed tells. -/
namespace Go.Proofs.YtdgojpjmhalilaaGreatDoor
open Go.RowKit Go.MapKept

theorem tyL_err : ∀ (ks : List XT) (E : Ev), (tyL ks E).1 ≠ 0 → (tyL ks E).2 = []
  | [], E, _ => by rw [tyL]
  | x :: xs, E, h => by
    rw [tyL] at h ⊢
    split
    · rfl
    · rename_i h1
      rw [if_neg h1] at h
      split
      · rfl
      · rename_i h2
        rw [if_neg h2] at h
        exact absurd rfl h
def preL (acc : List Sp) (r : Int × List Sp) : Int × List Sp := if r.1 ≠ 0 then (r.1, []) else (0, acc ++ r.2)
theorem preL_start (ks : List XT) (E : Ev) : preL [] (tyL ks E) = tyL ks E := by
  unfold preL
  split
  · rename_i h; rw [← tyL_err ks E h]
  · rename_i h
    have h' : (tyL ks E).1 = 0 := by simpa using h
    rw [List.nil_append, ← h']
theorem preL_no {acc : List Sp} {u : XT} {us : List XT} {E : Ev} (h : (tyF u E).1 ≠ 0) : preL acc (tyL (u :: us) E) = ((tyF u E).1, []) := by
  rw [tyL, if_pos h]; unfold preL; rw [if_pos h]
theorem preL_ok {acc : List Sp} {u : XT} {us : List XT} {E : Ev} (h : (tyF u E).1 = 0) : preL acc (tyL (u :: us) E) = preL (acc ++ [(tyF u E).2]) (tyL us E) := by
  rw [tyL, if_neg (by simpa using h)]
  unfold preL
  by_cases h2 : (tyL us E).1 ≠ 0
  · rw [if_pos h2]
    simp [h2]
  · rw [if_neg h2, if_neg h2]
    simp
theorem preL_end (acc : List Sp) (E : Ev) : preL acc (tyL [] E) = (0, acc) := by rw [tyL]; unfold preL; simp
theorem len_sizeL : ∀ ks : List XT, ks.length ≤ sizeL ks
  | [] => Nat.zero_le _
  | .mk _ _ _ ks' :: xs => by
    have := len_sizeL xs
    rw [sizeL, XT.size, List.length_cons]
    omega
theorem okL_at : ∀ {ks : List XT} {i : Nat} {u : XT}, okL ks → ks[i]? = some u → u.ok
  | [], i, u, _, h => by simp at h
  | x :: xs, 0, u, ho, h => by
    rw [okL] at ho
    simp only [List.getElem?_cons_zero, Option.some.injEq] at h
    rw [← h]; exact ho.1
  | x :: xs, i + 1, u, ho, h => by
    rw [okL] at ho
    exact okL_at ho.2 (by simpa using h)
theorem size_at : ∀ {ks : List XT} {i : Nat} {u : XT}, ks[i]? = some u → u.size ≤ sizeL ks
  | [], i, u, h => by simp at h
  | x :: xs, 0, u, h => by
    simp only [List.getElem?_cons_zero, Option.some.injEq] at h
    rw [sizeL, ← h]; omega
  | x :: xs, i + 1, u, h => by
    have := size_at (ks := xs) (i := i) (u := u) (by simpa using h)
    rw [sizeL]; omega

theorem XMem.form {B : Nat} {w : World} {x : XT} {cs : Array Value} (h : XMem B w x cs) : ∃ (k vk : Int) (vy : Bool) (vc vx : Int) (vt : ByteArray) (va : Option Addr) (vn vp : Nat) (s : ByteArray) (a : Option Addr) (n cap : Nat), cs = #[.int .i64 k, .int .i64 vk, .bool vy, .int .i64 vc, .int .i64 vx, .string vt, .slice va vn vp, .string s, .slice a n cap] := by
  cases x with
  | mk k v s ks =>
    rw [XMem] at h
    obtain ⟨_, _, vk, vy, vc, vx, vt, va, vn, vp, a, cap, hx, _⟩ := h
    exact ⟨_, _, _, _, _, _, _, _, _, _, _, _, _, hx⟩

set_option maxRecDepth 100000 in
set_option maxHeartbeats 8000000 in
theorem ofKids_any (ks : List XT) (IH : ∀ u ∈ ks, TypedC u) {B lo bt bn bf : Nat} {E : Ev} {M : Nat} {w : World} {a : Option Addr} {cap : Nat} (S : TyS B lo bt bn bf E M w) (hk : ks ≠ [] → ∃ b off, a = some ⟨b, off, none⟩ ∧ b < B ∧ XMemL B w ks b off) (hok : okL ks) (hM : M + sizeL ks ≤ 50000) :
    Calls Tryz.prog 23 #[.pointer (some ⟨bt, 0, none⟩), .slice a ks.length cap] w fun e w' => ∃ v, e = .returned (.tuple #[v, .int .i64 (tyL ks E).1]) ∧ SL w.heap.size w' v (tyL ks E).2 ∧ MapF bn (envV E) w' ∧ But bn w w' := by
  have hlo := S.lowB
  have hbn := S.names.low
  have hlen : ks.length ≤ 50000 := by have := len_sizeL ks; omega
  obtain ⟨wm, hmk, hown, hbm⟩ := make_sh ks.length (by omega) w w.heap.size (Nat.le_refl _)
  have HS0 := hide hown
  have HN0 := hide (S.names.keep hbm)
  have HB0 := hide (But.of (p := bn) hbm)
  have HS := hide S
  have HK := hide hk
  have HI := hide IH
  have HOK := hide hok
  clear hown hbm S hk IH hok
  go_enter Tryz.func23, Tryz.ntmps23
  go_wp2
  go_loopw [6, 16] (fun sv i wr => ∃ (m : Nat) (acc : List Sp), m ≤ ks.length ∧ i = .int .i64 (m : Int) ∧ acc.length = m ∧ Hid (tyL ks E = preL acc (tyL (ks.drop m) E)) ∧ Hid (SM w.heap.size wr sv acc) ∧ Hid (MapF bn (envV E) wr) ∧ Hid (But bn w wr)) (fun _ i _ => ks.length - (intOf i).toNat)
  case atStart => exact ⟨0, [], Nat.zero_le _, rfl, rfl, hide (preL_start ks E).symm, HS0, HN0, HB0⟩
  case round =>
    obtain ⟨m, acc, hml, rfl, hacc, H, HS1, HN1, HB1⟩ := hrel
    have HAC := hide hacc
    clear HS0 HN0 HB0 hmk hacc
    by_cases hlt : m < ks.length
    · have hi1 : (m : Int) < (ks.length : Int) := by omega
      obtain ⟨u, hu⟩ : ∃ u, ks[m]? = some u := ⟨_, List.getElem?_eq_getElem hlt⟩
      obtain ⟨b, off, rfl, hlB, hml2⟩ := unhide HK (by intro e; subst e; simp at hlt)
      have hBw : Below B w wr := (unhide HB1).below hlo (by omega)
      obtain ⟨cs, h9, hmu⟩ := XMemL.at (XMemL.below hBw hlB hml2) m u hu
      have S1 := (unhide HS).but (unhide HB1) (unhide HN1) (unhide HS).bd
      have hsu : M + u.size ≤ 50000 := by have := size_at hu; omega
      obtain ⟨xk, vk, vy, vc, vx, vt, va, vn, vp, xs, xa, xn, xp, rfl⟩ := hmu.form
      obtain ⟨q0, q1, q2, q3, q4, q5, q6, q7, q8, hcs, c0, c1, c2, c3, c4, c5, c6, c7, c8⟩ := h9
      simp only [Array.mk.injEq, List.cons.injEq, and_true] at hcs
      obtain ⟨rfl, rfl, rfl, rfl, rfl, rfl, rfl, rfl, rfl⟩ := hcs
      have hBa := (Below.refl wr.heap.size wr).alloc (Nat.le_refl _) (.cells #[.int .i64 xk, .int .i64 vk, .bool vy, .int .i64 vc, .int .i64 vx, .string vt, .slice va vn vp, .string xs, .slice xa xn xp] 29)
      have hBz : B ≤ wr.heap.size := by have := (unhide HB1).size; omega
      have C := hide (unhide HI u (List.mem_of_getElem? hu) B lo bt bn bf E M _ _ (XMem.below (hBa.mono hBz) hmu) (okL_at (unhide HOK) hu) (S1.keep hBa) hsu)
      rw [drop_at hu] at H
      have HNO := hide (fun h => (unhide H).trans (preL_no (acc := acc) (us := ks.drop (m + 1)) (u := u) (E := E) h))
      have HYES := hide (fun h => (unhide H).trans (preL_ok (acc := acc) (us := ks.drop (m + 1)) (u := u) (E := E) h))
      generalize tyF u E = r at *
      obtain ⟨r1, r2⟩ := r
      simp only at C HNO HYES
      clear H hmu S1 hu hml2 hBw hsu
      go_wp2_with fail
      refine (unhide C).mono ?_
      rintro e w2 ⟨rfl, N2, Bt2⟩
      have hBt : But bn wr w2 := (But.of (p := bn) hBa).trans Bt2
      have HS2 := hide ((unhide HS1).but hBt hbn)
      have HB2 := hide ((unhide HB1).trans hBt)
      have HN2 := hide N2
      have hz2 : w.heap.size ≤ w2.heap.size := (unhide HB2).size
      clear Bt2 hBt N2 HS1 HB1 HN1 C hBa c0 c1 c2 c3 c4 c5 c6 c7 c8
      by_cases hr : r1 = 0
      · subst hr
        have E2 := hide (unhide HYES rfl)
        obtain ⟨i0, hi, hz0, hz1, hzb⟩ := info_parts info_shp
        have HI2 := hide (And.intro hi (And.intro hz0 (And.intro hz1 hzb)))
        clear HNO HYES hi hz0 hz1 hzb
        go_wp2_with (at_builtin; refine wpList_append_own _ rfl _ _ 64 rfl w.heap.size 47 i0 (.agg #[.int .i64 0, .int .i64 0]) 2 16 Tryz.underlying64 (unhide HI2).1 (unhide HI2).2.1 (unhide HI2).2.2.1 (unhide HI2).2.2.2 rfl (by decide) _ _ _ rfl (World.ownsRow.alloc (World.ownsRow.alloc (unhide HS2) _) _) ⟨w2.heap.size + 1, 0, none⟩ 1 1 (shC r2) rfl rfl ?c1 ?c2 ?c3 ?c4 ?c5 ?_)
        case c1 =>
          have q := cell_two_new (w2.alloc (.cells #[.int .i64 (r2.n : Int), .int .i64 r2.k] 47)) 47 (.int .i64 (r2.n : Int)) (.int .i64 r2.k)
          rw [World.size_alloc] at q
          exact q
        case c2 => intro x hx; simp [shC] at hx; rcases hx with rfl | rfl <;> rfl
        case c3 => rw [unhide HAC]; unfold maxLen; omega
        case c4 => rw [unhide HAC]; omega
        case c5 => simp; omega
        intro v' w3 hown hgrow hnil
        have HS3 : Hid (SM w.heap.size w3 v' (acc ++ [r2])) := by
          refine hide ?_
          unfold SM
          rw [shCs_app, List.length_append]
          exact hown
        have HG : Below w.heap.size w2 w3 := (((Below.refl w.heap.size w2).alloc hz2 _).alloc (by simp; omega) _).grown hgrow (by simp; omega) (fun k hk => (unhide HS2).own k hk)
        have HB3 := hide ((unhide HB2).on HG)
        have HN3 : Hid (MapF bn (envV E) w3) := by
          obtain ⟨es, c, q1, q2⟩ := (unhide HN2).map
          exact hide ⟨Nat.lt_of_lt_of_le (unhide HN2).low HG.size, es, c, (HG.block bn hbn).trans q1, q2⟩
        clear hown hgrow hnil HG HS2 HN2 HB2 HI2
        go_wp2
        go_roundw
        case rel => exact ⟨m + 1, acc ++ [r2], by omega, by go_num, by rw [List.length_append, unhide HAC]; rfl, E2, HS3, HN3, HB3⟩
        case measure => simp [intOf]; omega
      · have E2 := hide (unhide HNO hr)
        have hr' : (r1 != 0) = true := by simpa using hr
        have hBa2 := (Below.refl w2.heap.size w2).alloc (Nat.le_refl _) (.cells #[.int .i64 (r2.n : Int), .int .i64 r2.k] 47)
        have HN3 := hide ((unhide HN2).keep hBa2)
        have HB3 := hide ((unhide HB2).trans (But.of (p := bn) hBa2))
        clear HNO HYES HS2 HN2 HB2 hBa2 hr
        go_wp2
        refine bodyPost_ret (v := .tuple #[.slice none 0 0, .int .i64 r1]) (by simp [results, Tryz.results23, go_sem]) rfl ⟨.slice none 0 0, by rw [unhide E2], ?_, unhide HN3, unhide HB3⟩
        rw [unhide E2]
        exact ⟨by simp, none, 0, rfl, fun h => absurd rfl h⟩
    · obtain rfl : m = ks.length := by omega
      have E2 : Hid (tyL ks E = (0, acc)) := hide ((unhide H).trans (by rw [List.drop_length]; exact preL_end acc E))
      clear H HK HI HOK HS
      go_wp2
      refine bodyPost_ret (v := .tuple #[u6, .int .i64 0]) (by simp [results, Tryz.results23, go_sem]) rfl ⟨u6, by rw [unhide E2], ?_, unhide HN1, unhide HB1⟩
      rw [unhide E2]
      exact (unhide HS1).read (by rw [unhide HAC]; omega)
end Go.Proofs.YtdgojpjmhalilaaGreatDoor

/- Walks: the table of functions is made. (Written by gen_ye.py.) -/
namespace Go.Proofs.YtdgojpjmhalilaaGreatDoor
open Go.RowKit

open Go.MapKept

set_option maxRecDepth 100000 in
set_option maxHeartbeats 16000000 in
theorem functions_tell (lo : Nat) (w : World) (hlo : 0 < lo) (hl : lo ≤ w.heap.size) :
    Calls Tryz.prog 18 #[] w fun e w' => ∃ m, e = .returned (.map (some m)) ∧ FnM lo m w' fnTab ∧ Below w.heap.size w w' := by
  have hmm := @run_makeMap Tryz.prog
  have S0 := hide (And.intro (FnM.new w lo hl) (And.intro ((Below.refl w.heap.size w).alloc (Nat.le_refl _) (.map #[] 0)) (show lo ≤ (w.alloc (.map #[] 0)).heap.size by simp; omega)))
  have H0 := hide hl
  clear hl
  go_enter Tryz.func18, Tryz.ntmps18
  go_wp2_with fail
  refine (always_tell _ _).mono ?_
  rintro e w0a ⟨rfl, hc, hz, hb⟩
  have q := fn_always hlo (unhide S0).2.2 (unhide S0).1 (unhide S0).2.1 [2] 3 2 (by simpa using hc) (by simpa using hz) (by simpa using hb)
  simp only [World.size_alloc] at q
  have T0 := hide q
  clear hc hz hb q S0
  go_wp2_with fail
  refine upon_fn Tryz.underlying58 Tryz.underlying9 ⟨#[110, 111, 116]⟩ [2] (.always 2) (unhide T0).1 (unhide T0).2.1 (unhide T0).2.2.1 (unhide T0).2.2.2.1 (unhide T0).2.2.2.2.1 ?_
  intro w0b M B
  have S1 := hide (And.intro M (And.intro ((unhide T0).2.2.2.2.2.trans (B.below (by have := (unhide H0); have := M.low; omega) (unhide T0).2.2.2.2.2.size)) (Nat.le_trans (unhide H0) (Nat.le_trans (unhide T0).2.2.2.2.2.size B.size))))
  clear M B T0
  go_wp2_with fail
  refine (always_tell _ _).mono ?_
  rintro e w1a ⟨rfl, hc, hz, hb⟩
  simp only [World.size_alloc] at hc hz hb
  have T1 := hide (fn_always hlo (unhide S1).2.2 (unhide S1).1 (unhide S1).2.1 [3] 3 3 hc hz hb)
  clear hc hz hb S1
  go_wp2_with fail
  refine upon_fn Tryz.underlying58 Tryz.underlying9 ⟨#[102, 108, 111, 111, 114]⟩ [3] (.always 3) (unhide T1).1 (unhide T1).2.1 (unhide T1).2.2.1 (unhide T1).2.2.2.1 (unhide T1).2.2.2.2.1 ?_
  intro w1b M B
  have S2 := hide (And.intro M (And.intro ((unhide T1).2.2.2.2.2.trans (B.below (by have := (unhide H0); have := M.low; omega) (unhide T1).2.2.2.2.2.size)) (Nat.le_trans (unhide H0) (Nat.le_trans (unhide T1).2.2.2.2.2.size B.size))))
  clear M B T1
  go_wp2_with fail
  refine (always_tell _ _).mono ?_
  rintro e w2a ⟨rfl, hc, hz, hb⟩
  simp only [World.size_alloc] at hc hz hb
  have T2 := hide (fn_always hlo (unhide S2).2.2 (unhide S2).1 (unhide S2).2.1 [3] 3 3 hc hz hb)
  clear hc hz hb S2
  go_wp2_with fail
  refine upon_fn Tryz.underlying58 Tryz.underlying9 ⟨#[99, 101, 105, 108, 105, 110, 103]⟩ [3] (.always 3) (unhide T2).1 (unhide T2).2.1 (unhide T2).2.2.1 (unhide T2).2.2.2.1 (unhide T2).2.2.2.2.1 ?_
  intro w2b M B
  have S3 := hide (And.intro M (And.intro ((unhide T2).2.2.2.2.2.trans (B.below (by have := (unhide H0); have := M.low; omega) (unhide T2).2.2.2.2.2.size)) (Nat.le_trans (unhide H0) (Nat.le_trans (unhide T2).2.2.2.2.2.size B.size))))
  clear M B T2
  go_wp2_with fail
  refine (always_tell _ _).mono ?_
  rintro e w3a ⟨rfl, hc, hz, hb⟩
  simp only [World.size_alloc] at hc hz hb
  have T3 := hide (fn_always hlo (unhide S3).2.2 (unhide S3).1 (unhide S3).2.1 [3] 3 3 hc hz hb)
  clear hc hz hb S3
  go_wp2_with fail
  refine upon_fn Tryz.underlying58 Tryz.underlying9 ⟨#[97, 98, 115]⟩ [3] (.always 3) (unhide T3).1 (unhide T3).2.1 (unhide T3).2.2.1 (unhide T3).2.2.2.1 (unhide T3).2.2.2.2.1 ?_
  intro w3b M B
  have S4 := hide (And.intro M (And.intro ((unhide T3).2.2.2.2.2.trans (B.below (by have := (unhide H0); have := M.low; omega) (unhide T3).2.2.2.2.2.size)) (Nat.le_trans (unhide H0) (Nat.le_trans (unhide T3).2.2.2.2.2.size B.size))))
  clear M B T3
  go_wp2_with fail
  refine (always_tell _ _).mono ?_
  rintro e w4a ⟨rfl, hc, hz, hb⟩
  simp only [World.size_alloc] at hc hz hb
  have T4 := hide (fn_always hlo (unhide S4).2.2 (unhide S4).1 (unhide S4).2.1 [3, 3] 3 3 hc hz hb)
  clear hc hz hb S4
  go_wp2_with fail
  refine upon_fn Tryz.underlying58 Tryz.underlying9 ⟨#[114, 111, 117, 110, 100]⟩ [3, 3] (.always 3) (unhide T4).1 (unhide T4).2.1 (unhide T4).2.2.1 (unhide T4).2.2.2.1 (unhide T4).2.2.2.2.1 ?_
  intro w4b M B
  have S5 := hide (And.intro M (And.intro ((unhide T4).2.2.2.2.2.trans (B.below (by have := (unhide H0); have := M.low; omega) (unhide T4).2.2.2.2.2.size)) (Nat.le_trans (unhide H0) (Nat.le_trans (unhide T4).2.2.2.2.2.size B.size))))
  clear M B T4
  go_wp2_with fail
  have T5 := hide (fn_plain hlo (unhide S5).2.2 (unhide S5).1 (unhide S5).2.1 [5] 3)
  clear S5
  refine upon_fn Tryz.underlying58 Tryz.underlying9 ⟨#[109, 105, 110]⟩ [5] .elem (unhide T5).1 (unhide T5).2.1 (unhide T5).2.2.1 rfl (fun c e => by simp at e) ?_
  intro w5b M B
  have S6 := hide (And.intro M (And.intro ((unhide T5).2.2.2.trans (B.below (by have := (unhide H0); have := M.low; omega) (unhide T5).2.2.2.size)) (Nat.le_trans (unhide H0) (Nat.le_trans (unhide T5).2.2.2.size B.size))))
  clear M B T5
  go_wp2_with fail
  have T6 := hide (fn_plain hlo (unhide S6).2.2 (unhide S6).1 (unhide S6).2.1 [5] 3)
  clear S6
  refine upon_fn Tryz.underlying58 Tryz.underlying9 ⟨#[109, 97, 120]⟩ [5] .elem (unhide T6).1 (unhide T6).2.1 (unhide T6).2.2.1 rfl (fun c e => by simp at e) ?_
  intro w6b M B
  have S7 := hide (And.intro M (And.intro ((unhide T6).2.2.2.trans (B.below (by have := (unhide H0); have := M.low; omega) (unhide T6).2.2.2.size)) (Nat.le_trans (unhide H0) (Nat.le_trans (unhide T6).2.2.2.size B.size))))
  clear M B T6
  go_wp2_with fail
  have T7 := hide (fn_plain hlo (unhide S7).2.2 (unhide S7).1 (unhide S7).2.1 [5, 3] 3)
  clear S7
  refine upon_fn Tryz.underlying58 Tryz.underlying9 ⟨#[105, 116, 101, 109]⟩ [5, 3] .elem (unhide T7).1 (unhide T7).2.1 (unhide T7).2.2.1 rfl (fun c e => by simp at e) ?_
  intro w7b M B
  have S8 := hide (And.intro M (And.intro ((unhide T7).2.2.2.trans (B.below (by have := (unhide H0); have := M.low; omega) (unhide T7).2.2.2.size)) (Nat.le_trans (unhide H0) (Nat.le_trans (unhide T7).2.2.2.size B.size))))
  clear M B T7
  go_wp2_with fail
  have T8 := hide (fn_plain hlo (unhide S8).2.2 (unhide S8).1 (unhide S8).2.1 [5] 3)
  clear S8
  refine upon_fn Tryz.underlying58 Tryz.underlying9 ⟨#[115, 117, 109]⟩ [5] .sum (unhide T8).1 (unhide T8).2.1 (unhide T8).2.2.1 rfl (fun c e => by simp at e) ?_
  intro w8b M B
  have S9 := hide (And.intro M (And.intro ((unhide T8).2.2.2.trans (B.below (by have := (unhide H0); have := M.low; omega) (unhide T8).2.2.2.size)) (Nat.le_trans (unhide H0) (Nat.le_trans (unhide T8).2.2.2.size B.size))))
  clear M B T8
  go_wp2_with fail
  refine (always_tell _ _).mono ?_
  rintro e w9a ⟨rfl, hc, hz, hb⟩
  simp only [World.size_alloc] at hc hz hb
  have T9 := hide (fn_always hlo (unhide S9).2.2 (unhide S9).1 (unhide S9).2.1 [5] 3 3 hc hz hb)
  clear hc hz hb S9
  go_wp2_with fail
  refine upon_fn Tryz.underlying58 Tryz.underlying9 ⟨#[99, 111, 117, 110, 116]⟩ [5] (.always 3) (unhide T9).1 (unhide T9).2.1 (unhide T9).2.2.1 (unhide T9).2.2.2.1 (unhide T9).2.2.2.2.1 ?_
  intro w9b M B
  have S10 := hide (And.intro M (And.intro ((unhide T9).2.2.2.2.2.trans (B.below (by have := (unhide H0); have := M.low; omega) (unhide T9).2.2.2.2.2.size)) (Nat.le_trans (unhide H0) (Nat.le_trans (unhide T9).2.2.2.2.2.size B.size))))
  clear M B T9
  go_wp2_with fail
  have T10 := hide (fn_plain hlo (unhide S10).2.2 (unhide S10).1 (unhide S10).2.1 [5] 3)
  clear S10
  refine upon_fn Tryz.underlying58 Tryz.underlying9 ⟨#[114, 101, 118, 101, 114, 115, 101]⟩ [5] .elems (unhide T10).1 (unhide T10).2.1 (unhide T10).2.2.1 rfl (fun c e => by simp at e) ?_
  intro w10b M B
  have S11 := hide (And.intro M (And.intro ((unhide T10).2.2.2.trans (B.below (by have := (unhide H0); have := M.low; omega) (unhide T10).2.2.2.size)) (Nat.le_trans (unhide H0) (Nat.le_trans (unhide T10).2.2.2.size B.size))))
  clear M B T10
  go_wp2_with fail
  have T11 := hide (fn_plain hlo (unhide S11).2.2 (unhide S11).1 (unhide S11).2.1 [5] 3)
  clear S11
  refine upon_fn Tryz.underlying58 Tryz.underlying9 ⟨#[100, 105, 115, 116, 105, 110, 99, 116]⟩ [5] .elems (unhide T11).1 (unhide T11).2.1 (unhide T11).2.2.1 rfl (fun c e => by simp at e) ?_
  intro w11b M B
  have S12 := hide (And.intro M (And.intro ((unhide T11).2.2.2.trans (B.below (by have := (unhide H0); have := M.low; omega) (unhide T11).2.2.2.size)) (Nat.le_trans (unhide H0) (Nat.le_trans (unhide T11).2.2.2.size B.size))))
  clear M B T11
  go_wp2_with fail
  have T12 := hide (fn_plain hlo (unhide S12).2.2 (unhide S12).1 (unhide S12).2.1 [5] 3)
  clear S12
  refine upon_fn Tryz.underlying58 Tryz.underlying9 ⟨#[115, 111, 114, 116]⟩ [5] .elems (unhide T12).1 (unhide T12).2.1 (unhide T12).2.2.1 rfl (fun c e => by simp at e) ?_
  intro w12b M B
  have S13 := hide (And.intro M (And.intro ((unhide T12).2.2.2.trans (B.below (by have := (unhide H0); have := M.low; omega) (unhide T12).2.2.2.size)) (Nat.le_trans (unhide H0) (Nat.le_trans (unhide T12).2.2.2.size B.size))))
  clear M B T12
  go_wp2_with fail
  have T13 := hide (fn_plain hlo (unhide S13).2.2 (unhide S13).1 (unhide S13).2.1 [5, 5] 3)
  clear S13
  refine upon_fn Tryz.underlying58 Tryz.underlying9 ⟨#[99, 111, 110, 99, 97, 116]⟩ [5, 5] .elems (unhide T13).1 (unhide T13).2.1 (unhide T13).2.2.1 rfl (fun c e => by simp at e) ?_
  intro w13b M B
  have S14 := hide (And.intro M (And.intro ((unhide T13).2.2.2.trans (B.below (by have := (unhide H0); have := M.low; omega) (unhide T13).2.2.2.size)) (Nat.le_trans (unhide H0) (Nat.le_trans (unhide T13).2.2.2.size B.size))))
  clear M B T13
  go_wp2_with fail
  refine (always_tell _ _).mono ?_
  rintro e w14a ⟨rfl, hc, hz, hb⟩
  simp only [World.size_alloc] at hc hz hb
  have T14 := hide (fn_always hlo (unhide S14).2.2 (unhide S14).1 (unhide S14).2.1 [4] 3 3 hc hz hb)
  clear hc hz hb S14
  go_wp2_with fail
  refine upon_fn Tryz.underlying58 Tryz.underlying9 ⟨#[108, 101, 110, 103, 116, 104]⟩ [4] (.always 3) (unhide T14).1 (unhide T14).2.1 (unhide T14).2.2.1 (unhide T14).2.2.2.1 (unhide T14).2.2.2.2.1 ?_
  intro w14b M B
  have S15 := hide (And.intro M (And.intro ((unhide T14).2.2.2.2.2.trans (B.below (by have := (unhide H0); have := M.low; omega) (unhide T14).2.2.2.2.2.size)) (Nat.le_trans (unhide H0) (Nat.le_trans (unhide T14).2.2.2.2.2.size B.size))))
  clear M B T14
  go_wp2_with fail
  refine (always_tell _ _).mono ?_
  rintro e w15a ⟨rfl, hc, hz, hb⟩
  simp only [World.size_alloc] at hc hz hb
  have T15 := hide (fn_always hlo (unhide S15).2.2 (unhide S15).1 (unhide S15).2.1 [4] 3 4 hc hz hb)
  clear hc hz hb S15
  go_wp2_with fail
  refine upon_fn Tryz.underlying58 Tryz.underlying9 ⟨#[117, 112, 112, 101, 114]⟩ [4] (.always 4) (unhide T15).1 (unhide T15).2.1 (unhide T15).2.2.1 (unhide T15).2.2.2.1 (unhide T15).2.2.2.2.1 ?_
  intro w15b M B
  have S16 := hide (And.intro M (And.intro ((unhide T15).2.2.2.2.2.trans (B.below (by have := (unhide H0); have := M.low; omega) (unhide T15).2.2.2.2.2.size)) (Nat.le_trans (unhide H0) (Nat.le_trans (unhide T15).2.2.2.2.2.size B.size))))
  clear M B T15
  go_wp2_with fail
  refine (always_tell _ _).mono ?_
  rintro e w16a ⟨rfl, hc, hz, hb⟩
  simp only [World.size_alloc] at hc hz hb
  have T16 := hide (fn_always hlo (unhide S16).2.2 (unhide S16).1 (unhide S16).2.1 [4] 3 4 hc hz hb)
  clear hc hz hb S16
  go_wp2_with fail
  refine upon_fn Tryz.underlying58 Tryz.underlying9 ⟨#[108, 111, 119, 101, 114]⟩ [4] (.always 4) (unhide T16).1 (unhide T16).2.1 (unhide T16).2.2.1 (unhide T16).2.2.2.1 (unhide T16).2.2.2.2.1 ?_
  intro w16b M B
  have S17 := hide (And.intro M (And.intro ((unhide T16).2.2.2.2.2.trans (B.below (by have := (unhide H0); have := M.low; omega) (unhide T16).2.2.2.2.2.size)) (Nat.le_trans (unhide H0) (Nat.le_trans (unhide T16).2.2.2.2.2.size B.size))))
  clear M B T16
  go_wp2_with fail
  refine (always_tell _ _).mono ?_
  rintro e w17a ⟨rfl, hc, hz, hb⟩
  simp only [World.size_alloc] at hc hz hb
  have T17 := hide (fn_always hlo (unhide S17).2.2 (unhide S17).1 (unhide S17).2.1 [4, 3, 3] 3 4 hc hz hb)
  clear hc hz hb S17
  go_wp2_with fail
  refine upon_fn Tryz.underlying58 Tryz.underlying9 ⟨#[115, 117, 98, 115, 116, 114, 105, 110, 103]⟩ [4, 3, 3] (.always 4) (unhide T17).1 (unhide T17).2.1 (unhide T17).2.2.1 (unhide T17).2.2.2.1 (unhide T17).2.2.2.2.1 ?_
  intro w17b M B
  have S18 := hide (And.intro M (And.intro ((unhide T17).2.2.2.2.2.trans (B.below (by have := (unhide H0); have := M.low; omega) (unhide T17).2.2.2.2.2.size)) (Nat.le_trans (unhide H0) (Nat.le_trans (unhide T17).2.2.2.2.2.size B.size))))
  clear M B T17
  go_wp2_with fail
  refine (always_tell _ _).mono ?_
  rintro e w18a ⟨rfl, hc, hz, hb⟩
  simp only [World.size_alloc] at hc hz hb
  have T18 := hide (fn_always hlo (unhide S18).2.2 (unhide S18).1 (unhide S18).2.1 [4, 4] 3 2 hc hz hb)
  clear hc hz hb S18
  go_wp2_with fail
  refine upon_fn Tryz.underlying58 Tryz.underlying9 ⟨#[99, 111, 110, 116, 97, 105, 110, 115]⟩ [4, 4] (.always 2) (unhide T18).1 (unhide T18).2.1 (unhide T18).2.2.1 (unhide T18).2.2.2.1 (unhide T18).2.2.2.2.1 ?_
  intro w18b M B
  have S19 := hide (And.intro M (And.intro ((unhide T18).2.2.2.2.2.trans (B.below (by have := (unhide H0); have := M.low; omega) (unhide T18).2.2.2.2.2.size)) (Nat.le_trans (unhide H0) (Nat.le_trans (unhide T18).2.2.2.2.2.size B.size))))
  clear M B T18
  go_wp2_with fail
  refine (always_tell _ _).mono ?_
  rintro e w19a ⟨rfl, hc, hz, hb⟩
  simp only [World.size_alloc] at hc hz hb
  have T19 := hide (fn_always hlo (unhide S19).2.2 (unhide S19).1 (unhide S19).2.1 [4, 4] 3 2 hc hz hb)
  clear hc hz hb S19
  go_wp2_with fail
  refine upon_fn Tryz.underlying58 Tryz.underlying9 ⟨#[115, 116, 97, 114, 116, 115]⟩ [4, 4] (.always 2) (unhide T19).1 (unhide T19).2.1 (unhide T19).2.2.1 (unhide T19).2.2.2.1 (unhide T19).2.2.2.2.1 ?_
  intro w19b M B
  have S20 := hide (And.intro M (And.intro ((unhide T19).2.2.2.2.2.trans (B.below (by have := (unhide H0); have := M.low; omega) (unhide T19).2.2.2.2.2.size)) (Nat.le_trans (unhide H0) (Nat.le_trans (unhide T19).2.2.2.2.2.size B.size))))
  clear M B T19
  go_wp2_with fail
  refine (always_tell _ _).mono ?_
  rintro e w20a ⟨rfl, hc, hz, hb⟩
  simp only [World.size_alloc] at hc hz hb
  have T20 := hide (fn_always hlo (unhide S20).2.2 (unhide S20).1 (unhide S20).2.1 [4, 4] 3 2 hc hz hb)
  clear hc hz hb S20
  go_wp2_with fail
  refine upon_fn Tryz.underlying58 Tryz.underlying9 ⟨#[101, 110, 100, 115]⟩ [4, 4] (.always 2) (unhide T20).1 (unhide T20).2.1 (unhide T20).2.2.1 (unhide T20).2.2.2.1 (unhide T20).2.2.2.2.1 ?_
  intro w20b M B
  have S21 := hide (And.intro M (And.intro ((unhide T20).2.2.2.2.2.trans (B.below (by have := (unhide H0); have := M.low; omega) (unhide T20).2.2.2.2.2.size)) (Nat.le_trans (unhide H0) (Nat.le_trans (unhide T20).2.2.2.2.2.size B.size))))
  clear M B T20
  go_wp2_with fail
  have T21 := hide (fn_plain hlo (unhide S21).2.2 (unhide S21).1 (unhide S21).2.1 [0, 0, 0] 3)
  clear S21
  refine upon_fn Tryz.underlying58 Tryz.underlying9 ⟨#[98, 101, 116, 119, 101, 101, 110]⟩ [0, 0, 0] .between (unhide T21).1 (unhide T21).2.1 (unhide T21).2.2.1 rfl (fun c e => by simp at e) ?_
  intro w21b M B
  have S22 := hide (And.intro M (And.intro ((unhide T21).2.2.2.trans (B.below (by have := (unhide H0); have := M.low; omega) (unhide T21).2.2.2.size)) (Nat.le_trans (unhide H0) (Nat.le_trans (unhide T21).2.2.2.size B.size))))
  clear M B T21
  go_wp2_with fail
  go_ret
  exact ⟨_, rfl, (unhide S22).1, (unhide S22).2.1⟩
end Go.Proofs.YtdgojpjmhalilaaGreatDoor

/- Walks: a function asked, whichever it is. -/
namespace Go.Proofs.YtdgojpjmhalilaaGreatDoor
open Go.RowKit Go.MapKept

theorem fnIn_mem : ∀ {tab : List (List UInt8 × List Int × Tl)} {s : List UInt8} {q : List Int × Tl}, fnIn tab s = some q → ∃ e ∈ tab, e.2 = q
  | [], s, q, h => by cases h
  | e :: tab, s, q, h => by
    rw [fnIn] at h
    split at h
    · cases h; exact ⟨e, List.mem_cons_self .., rfl⟩
    · obtain ⟨e', he, hq⟩ := fnIn_mem h
      exact ⟨e', List.mem_cons_of_mem _ he, hq⟩
theorem fnTab_len : ∀ e ∈ fnTab, 0 < e.2.1.length := by
  intro e he
  simp only [fnTab, List.mem_cons, List.not_mem_nil, or_false] at he
  rcases he with rfl | rfl | rfl | rfl | rfl | rfl | rfl | rfl | rfl | rfl | rfl | rfl | rfl | rfl | rfl | rfl | rfl | rfl | rfl | rfl | rfl | rfl <;> simp
theorem fn_pos {s : List UInt8} {q : List Int × Tl} (h : fnIn fnTab s = some q) : 0 < q.1.length := by
  obtain ⟨e, he, rfl⟩ := fnIn_mem h
  exact fnTab_len e he

theorem of_any {B : Nat} {l : List Sp} {kv : Value} {lo : Nat} (tk : List Int) (tl : Tl) (bt cap : Nat) (fv : Value) (w : World) (hT : TkV lo w tk bt) (hF : TlV lo w tl fv) (h : SL B w kv l) (hl : tk.length = l.length) (hn : ∀ a ∈ l, a.n ≤ 99999) (h0 : 0 < tk.length) :
    Calls Tryz.prog 41 #[.agg #[.slice (some ⟨bt, 0, none⟩) tk.length cap, fv], kv] w fun e w' => e = .returned (.tuple #[sh (ofF tk tl l).1, .bool (ofF tk tl l).2]) ∧ Below w.heap.size w w' := by
  have hT0 := hT.mono (Nat.zero_le lo)
  obtain ⟨s, hs⟩ : ∃ s, l[0]? = some s := ⟨_, List.getElem?_eq_getElem (by omega)⟩
  have hsn : s.n ≤ 100000 := Nat.le_trans (hn s (List.mem_of_getElem? hs)) (by omega)
  have hg : l.getD 0 ⟨0, 0⟩ = s := by rw [List.getD_eq_getElem?_getD, hs]; rfl
  show Calls Tryz.prog 41 #[.agg #[.slice (some ⟨bt, 0, none⟩) tk.length cap, fv], kv] w fun e w' => e = .returned (.tuple #[sh (ofR (goesB tk l) (tellF tl l)).1, .bool (ofR (goesB tk l) (tellF tl l)).2]) ∧ Below w.heap.size w w'
  cases tl with
  | always k =>
    obtain ⟨c, rfl, h1, h2, h3⟩ := hF
    exact of_always c tk bt cap w hT0 h hl _ (fun wx hb => always1_any k kv c wx ((hb.cell (p := ⟨c, 0, none⟩) h2).trans h3) (Nat.lt_of_lt_of_le h2 hb.size))
  | elem =>
    obtain rfl := hF
    exact of_elem tk bt cap w hT0 h hl _ (fun wx hb => by
      have := elemOfFirst_any wx (h.keep hb) hs hsn
      simpa only [tellF, hg] using this)
  | elems =>
    obtain rfl := hF
    exact of_elems tk bt cap w hT0 h hl _ (fun wx hb => listOfElems_any wx (h.keep hb) hn)
  | sum =>
    obtain rfl := hF
    exact of_sum tk bt cap w hT0 h hl _ (fun wx hb => by
      have := ofSum_any wx (h.keep hb) hs hsn
      simp only [tellF, hg]
      exact this)
  | between =>
    obtain rfl := hF
    exact of_between tk bt cap w hT0 h hl _ (fun wx hb => ofBetween_any wx (h.keep hb))
theorem TlV.func {lo : Nat} {w : World} {tl : Tl} {fv : Value} (h : TlV lo w tl fv) : ∃ f x y, fv = .func f x y := by
  cases tl with
  | always k => obtain ⟨c, rfl, _⟩ := h; exact ⟨_, _, _, rfl⟩
  | elem => obtain rfl := h; exact ⟨_, _, _, rfl⟩
  | elems => obtain rfl := h; exact ⟨_, _, _, rfl⟩
  | sum => obtain rfl := h; exact ⟨_, _, _, rfl⟩
  | between => obtain rfl := h; exact ⟨_, _, _, rfl⟩
end Go.Proofs.YtdgojpjmhalilaaGreatDoor
