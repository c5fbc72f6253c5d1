/- Walks: ofCall. -/
import Derived.Test.YtnegjbkbfgkkjaaGreatDoorG18
import Derived.BigRegion
import Derived.Laws.EntriesVeiled
import Derived.Test.YtnegjbkbfgkkjaaGreatDoorG16
namespace Go.Proofs.YtnegjbkbfgkkjaaGreatDoor
open Go.RowKit Go.MapKept

theorem info_fn : (Tryz.prog.info? 232).map (fun i => (i.zero, i.size, i.bytes)) = some (some (.agg #[.slice none 0 0, .nilFunc]), 2, 32) := by kernel_rfl
theorem zero_fn (w : World) : (zeroValue 232).run Tryz.prog w = .ok (.agg #[.slice none 0 0, .nilFunc]) w := by
  obtain ⟨i0, hi, hz0, hz1, hz2⟩ := info_parts info_fn
  simp [zeroValue, typeInfo, hi, hz0]

set_option maxRecDepth 100000 in
set_option maxHeartbeats 8000000 in
theorem ofCall_none {B lo bt bn bf : Nat} {E : Ev} {M : Nat} {w : World} (S : TyS B lo bt bn bf E M w) (xk vk : Int) (vy : Bool) (vc vx : Int) (vt : ByteArray) (va : Option Addr) (vn vp : Nat) (s : ByteArray) (a : Option Addr) (n cap : Nat) (hf : fnIn fnTab s.data.toList = none) :
    Calls Tryz.prog 111 #[.pointer (some ⟨bt, 0, none⟩), .agg #[.int .i64 xk, .int .i64 vk, .bool vy, .int .i64 vc, .int .i64 vx, .string vt, .slice va vn vp, .string s, .slice a n cap]] w fun e w' => e = .returned (.tuple #[shn 0 0, .int .i64 7]) ∧ Below w.heap.size w w' := by
  obtain ⟨w0, hw0⟩ : ∃ w0, w0 = (w.alloc (.cells #[.int .i64 xk, .int .i64 vk, .bool vy, .int .i64 vc, .int .i64 vx, .string vt, .slice va vn vp, .string s, .slice a n cap] 86)).alloc (.cells #[.int .i64 0, .int .i64 0] 158) := ⟨_, rfl⟩
  have B0 : Below w.heap.size w w0 := by rw [hw0]; exact below2 w _ _
  have X9 : V9 w0 w.heap.size (.int .i64 xk) (.int .i64 vk) (.bool vy) (.int .i64 vc) (.int .i64 vx) (.string vt) (.slice va vn vp) (.string s) (.slice a n cap) := by
    rw [hw0]; exact (V9.new w 86 _ _ _ _ _ _ _ _ _).keep ((Below.refl _ _).alloc (Nat.le_refl _) _) (by simp)
  have Y0 : Bx2 w0 (w.heap.size + 1) (.int .i64 0) (.int .i64 0) := by
    rw [hw0]
    have := Bx2.new (w.alloc (.cells #[.int .i64 xk, .int .i64 vk, .bool vy, .int .i64 vc, .int .i64 vx, .string vt, .slice va vn vp, .string s, .slice a n cap] 86)) 158 (.int .i64 0) (.int .i64 0)
    simpa using this
  obtain ⟨f, F1, F2⟩ := (S.keep B0).fns.tell
  have hfs : f s = none := by have := F2 s; rw [hf] at this; exact this
  have hlk1 := (F1.keep ((Below.refl w0.heap.size w0).drew)).miss Tryz.underlying182 Tryz.underlying9 (zero_fn _) hfs
  have hlk2 := (F1.keep ((Below.refl w0.heap.size w0).alloc (Nat.le_refl _) (.cells #[.slice none 0 0, .nilFunc] 232)).drew).miss Tryz.underlying182 Tryz.underlying9 (zero_fn _) hfs
  have b1 := (S.box.keep B0 S.box.low).at1
  have c7 := X9.tell.2.2.2.2.2.2.2.1
  have hbt := S.box.low
  have z0 : w0.heap.size = w.heap.size + 1 + 1 := by rw [hw0]; simp
  have hbt0 : bt < w0.heap.size := by omega
  have l9 : w.heap.size < w0.heap.size := by omega
  clear z0
  have HB := hide B0
  have x0 := Y0.at0
  have x1 := Y0.at1
  have t0 := Y0.th0
  have t1 := Y0.th1
  have lx := Y0.low
  clear S F1 F2 hfs X9 Y0 B0 hf
  go_enter Tryz.func111, Tryz.ntmps111
  go_upto_region 1 with fail
  rw [← hw0]
  clear hw0
  go_region
  all_goals
    go_wp2
    refine bodyPost_ret (v := .tuple #[shn 0 0, .int .i64 7]) (by simp [results, Tryz.results111, go_sem, x0, x1, lx]) rfl ⟨rfl, ?_⟩
    repeat (first | exact unhide HB | refine Below.setCell ?_ (by simp) _ | refine Below.alloc ?_ (by first | (simp [World.setCell]; omega) | omega) _ | apply Below.drew)

set_option maxRecDepth 100000 in
set_option maxHeartbeats 8000000 in
theorem ofCall_some (ks : List XT) (IH : ∀ u ∈ ks, TypedC u) {B lo bt bn bf : Nat} {E : Ev} {M : Nat} {w : World} (S : TyS B lo bt bn bf E M w) (xk vk : Int) (vy : Bool) (vc vx : Int) (vt : ByteArray) (va : Option Addr) (vn vp : Nat) (s : ByteArray) (a : Option Addr) (cap : Nat) (q : List Int × Tl) (hf : fnIn fnTab s.data.toList = some q) (hk : ks ≠ [] → ∃ b off, a = some ⟨b, off, none⟩ ∧ b < B ∧ XMemL B w ks b off) (hok : okL ks) (hM : M + sizeL ks ≤ 50000) :
    Calls Tryz.prog 111 #[.pointer (some ⟨bt, 0, none⟩), .agg #[.int .i64 xk, .int .i64 vk, .bool vy, .int .i64 vc, .int .i64 vx, .string vt, .slice va vn vp, .string s, .slice a ks.length cap]] w fun e w' => e = .returned (.tuple #[sh (callF (some q) ks.length (tyL ks E)).2, .int .i64 (callF (some q) ks.length (tyL ks E)).1]) ∧ MapF bn (envV E) w' ∧ But bn w w' := by
  obtain ⟨tk, tl⟩ := q
  have hpos := fn_pos hf
  obtain ⟨w0, hw0⟩ : ∃ w0, w0 = (w.alloc (.cells #[.int .i64 xk, .int .i64 vk, .bool vy, .int .i64 vc, .int .i64 vx, .string vt, .slice va vn vp, .string s, .slice a ks.length cap] 86)).alloc (.cells #[.int .i64 0, .int .i64 0] 158) := ⟨_, rfl⟩
  have B0 : Below w.heap.size w w0 := by rw [hw0]; exact below2 w _ _
  have X9 : V9 w0 w.heap.size (.int .i64 xk) (.int .i64 vk) (.bool vy) (.int .i64 vc) (.int .i64 vx) (.string vt) (.slice va vn vp) (.string s) (.slice a ks.length cap) := by
    rw [hw0]; exact (V9.new w 86 _ _ _ _ _ _ _ _ _).keep ((Below.refl _ _).alloc (Nat.le_refl _) _) (by simp)
  have Y0 : Bx2 w0 (w.heap.size + 1) (.int .i64 0) (.int .i64 0) := by
    rw [hw0]
    have := Bx2.new (w.alloc (.cells #[.int .i64 xk, .int .i64 vk, .bool vy, .int .i64 vc, .int .i64 vx, .string vt, .slice va vn vp, .string s, .slice a ks.length cap] 86)) 158 (.int .i64 0) (.int .i64 0)
    simpa using this
  have S0 := S.keep B0
  obtain ⟨f, F1, F2⟩ := S0.fns.tell
  obtain ⟨bk, fcap, fv, hfs, hTk, hbk, hTl, hcf⟩ : ∃ bt cap fv, f s = some (.agg #[.slice (some ⟨bt, 0, none⟩) tk.length cap, fv]) ∧ TkV lo w0 tk bt ∧ bt ≠ bf ∧ TlV lo w0 tl fv ∧ (∀ c, fv = .func (.func 165) #[] #[.pointer (some ⟨c, 0, none⟩)] → c ≠ bf) := by have := F2 s; rw [hf] at this; exact this
  obtain ⟨fn, fx, fy, rfl⟩ := hTl.func
  have hlk1 := (F1.keep ((Below.refl w0.heap.size w0).drew)).look Tryz.underlying182 Tryz.underlying9 hfs
  have hlk2 := (F1.keep ((Below.refl w0.heap.size w0).alloc (Nat.le_refl _) (.cells #[.slice none 0 0, .nilFunc] 232)).drew).look Tryz.underlying182 Tryz.underlying9 hfs
  have b1 := S0.box.at1
  have c7 := X9.tell.2.2.2.2.2.2.2.1
  have hbt := S.box.low
  have z0 : w0.heap.size = w.heap.size + 1 + 1 := by rw [hw0]; simp
  have hbt0 : bt < w0.heap.size := by omega
  have l9 : w.heap.size < w0.heap.size := by omega
  have l8 : w.heap.size + 1 < w0.heap.size := by omega
  have hlo := S.lowB
  have hbn := S.names.low
  have hlon := S.lon
  obtain ⟨w1, hw1⟩ : ∃ w1, w1 = (w0.alloc (.cells #[.slice (some ⟨bk, 0, none⟩) tk.length fcap, .func fn fx fy] 232)).drew := ⟨_, rfl⟩
  have B1 : Below w0.heap.size w0 w1 := by rw [hw1]; exact ((Below.refl _ _).alloc (Nat.le_refl _) _).drew
  have X6 : Bx2 w1 w0.heap.size (.slice (some ⟨bk, 0, none⟩) tk.length fcap) (.func fn fx fy) := by rw [hw1]; exact (Bx2.new w0 232 _ _).keep (B := w0.heap.size + 1) ((Below.refl _ _).drew) (by omega)
  have S1 := S0.keep B1
  have X9' := X9.keep B1 X9.low
  have HY := hide (Y0.keep B1 Y0.low)
  have B2 : Below w.heap.size w w1 := below_via B0 B1
  have HTk := hide (hTk.left (p := bn) (Left.of B1) (by have := hTk.1; omega))
  have HTl := hide (hTl.left (p := bn) (Left.of B1) (fun c hc => by
    rw [hc] at hTl
    cases tl with
    | always x => obtain ⟨c', hv, h1, _⟩ := hTl; simp at hv; omega
    | elem => simp [TlV] at hTl
    | elems => simp [TlV] at hTl
    | sum => simp [TlV] at hTl
    | between => simp [TlV] at hTl))
  have CK := hide (ofKids_any ks IH S1 (cap := cap) (fun hne => by
    obtain ⟨b, off, ha, hl, hm⟩ := hk hne
    exact ⟨b, off, ha, hl, XMemL.below (B2.mono (by omega)) hl hm⟩) hok hM)
  have HL2 := hide (tyL_bd ks E M S.bd)
  have HLn := hide (tyL_len ks E)
  have c8 := X9'.tell.2.2.2.2.2.2.2.2
  have f0 := X6.at0
  have HX6 := hide X6
  have HB := hide B2
  have HN1 := hide S1.names
  have EC : Hid (∀ r, callF (some (tk, tl)) ks.length r = if ks.length ≠ tk.length then (5, ⟨0, 0⟩) else if r.1 ≠ 0 then (r.1, ⟨0, 0⟩) else orW (ofF tk tl r.2)) := hide (fun _ => rfl)
  have lw1 : w0.heap.size < w1.heap.size := X6.low
  have lw2 : w.heap.size < w1.heap.size := by omega
  have lw3 : w.heap.size + 1 < w1.heap.size := by omega
  generalize tyL ks E = r at *
  obtain ⟨r1, r2⟩ := r
  simp only at CK HL2 HLn hpos
  generalize hcf2 : callF (some (tk, tl)) ks.length (r1, r2) = cr
  have HCR : Hid (cr = if ks.length ≠ tk.length then (5, ⟨0, 0⟩) else if r1 ≠ 0 then (r1, ⟨0, 0⟩) else orW (ofF tk tl r2)) := hide (by rw [← hcf2, unhide EC])
  have HPOS := hide hpos
  have HlenK : ks.length ≤ 50000 := by have := len_sizeL ks; omega
  clear z0 S0 X9 Y0 B0 hTk hTl hcf F1 F2 hfs hk hok IH hf S S1 X9' B1 B2 X6 hcf2 EC hpos
  go_enter Tryz.func111, Tryz.ntmps111
  go_upto_region 1 with fail
  rw [← hw0]
  clear hw0
  go_region
  all_goals
    rw [← hw1]
    clear hw1 hlk1 hlk2 b1 c7
    by_cases hn : ks.length = tk.length
    · have hn' : ((ks.length : Int) != (tk.length : Int)) = false := by simp [hn]
      rw [if_neg (by simp [hn])] at HCR
      have HN := hide hn
      clear hn
      go_wp2_with fail
      with_reducible refine (unhide CK).mono ?_
      rintro e w2 ⟨v, rfl, hSL, hN2, hBt2⟩
      have HY2 := (unhide HY).but hBt2 (by omega)
      have HX62 := (unhide HX6).but hBt2 (by omega)
      have HB2 := hide ((But.of (p := bn) (unhide HB)).trans hBt2)
      have lw : w1.heap.size ≤ w2.heap.size := hBt2.size
      by_cases hr : r1 = 0
      · subst hr
        rw [if_neg (by simp)] at HCR
        have hlr : tk.length = r2.length := by have := unhide HLn rfl; have := unhide HN; omega
        have CO := hide (of_any tk tl bk fcap (.func fn fx fy) w2 ((unhide HTk).left (p := bn) (Left.but hBt2) (by have := (unhide HTk).1; omega)) ((unhide HTl).left (p := bn) (Left.but hBt2) (fun c hc => by
          have hT := unhide HTl
          rw [hc] at hT
          cases tl with
          | always x => obtain ⟨c', hv, h1, _⟩ := hT; simp at hv; omega
          | elem => simp [TlV] at hT
          | elems => simp [TlV] at hT
          | sum => simp [TlV] at hT
          | between => simp [TlV] at hT)) hSL hlr (fun a ha => by have := unhide HL2 a ha; omega) (unhide HPOS))
        generalize ofF tk tl r2 = p at *
        obtain ⟨p1, p2⟩ := p
        simp only at CO
        have g0 := HX62.at0
        have g1 := HX62.at1
        have HYY := hide HY2
        have HN3 := hide hN2
        clear hSL hN2 hBt2 HY2 HX62 CK HY HX6 HTk HTl HL2 HLn HPOS HN c8 f0 hlr
        go_wp2_with fail
        with_reducible refine (unhide CO).mono ?_
        rintro e w3 ⟨rfl, hb3⟩
        have Y3 := hide ((unhide HYY).keep hb3 (unhide HYY).low)
        have N3 := hide ((unhide HN3).keep hb3)
        have B3 := hide ((unhide HB2).trans (But.of (p := bn) hb3))
        have OW := hide (fun wx => orWrong_any p1 p2 wx)
        generalize orW (p1, p2) = o at *
        obtain ⟨o1, o2⟩ := o
        simp only at OW
        clear hb3 HYY HN3 HB2 CO g0 g1
        go_wp2_with fail
        refine (unhide OW _).mono ?_
        rintro e w4 ⟨rfl, hb4⟩
        have Y4 := (unhide Y3).keep hb4 (unhide Y3).low
        have N4 := (unhide N3).keep hb4
        have B4 := (unhide B3).trans (But.of (p := bn) hb4)
        have R := Y4.put (.int .i64 (o2.n : Int)) (.int .i64 o2.k)
        have r0 := hide R.at0
        have r1' := hide R.at1
        have p5 : But (w.heap.size + 1) w4 (put2 w4 (w.heap.size + 1) (.int .i64 (o2.n : Int)) (.int .i64 o2.k)) := But.set.trans But.set
        have HN5 := hide (N4.but p5 (by omega))
        have HF5 := hide (B4.on (p5.below (by omega) B4.size))
        have x0 := Y4.at0
        have x1 := Y4.at1
        have t0 := Y4.th0
        have t1 := Y4.th1
        have lx := Y4.low
        clear hb4 Y3 N3 B3 OW Y4 N4 B4 R p5
        go_wp2
        refine bodyPost_ret (v := .tuple #[sh o2, .int .i64 o1]) (by simp [results, Tryz.results111, go_sem, unhide r0, unhide r1']) rfl ⟨by rw [unhide HCR], unhide HN5, unhide HF5⟩
      · rw [if_pos hr] at HCR
        have hr' : (r1 != 0) = true := by simpa using hr
        have p5 : But (w.heap.size + 1) w2 (put2 w2 (w.heap.size + 1) (.int .i64 0) (.int .i64 0)) := But.set.trans But.set
        have R := HY2.put (.int .i64 0) (.int .i64 0)
        have r0 := hide R.at0
        have r1' := hide R.at1
        have HN5 := hide (hN2.but p5 (by omega))
        have HF5 := hide ((unhide HB2).on (p5.below (by omega) (unhide HB2).size))
        have x0 := HY2.at0
        have x1 := HY2.at1
        have t0 := HY2.th0
        have t1 := HY2.th1
        have lx := HY2.low
        clear hr hSL hN2 hBt2 HY2 HX62 CK HY HX6 HTk HTl HL2 HLn HPOS HN c8 f0 R p5 HB2
        go_wp2
        refine bodyPost_ret (v := .tuple #[shn 0 0, .int .i64 r1]) (by simp [results, Tryz.results111, go_sem, unhide r0, unhide r1']) rfl ⟨by rw [unhide HCR]; rfl, unhide HN5, unhide HF5⟩
    · have hn' : ((ks.length : Int) != (tk.length : Int)) = true := by simp; omega
      rw [if_pos hn] at HCR
      have Y1 := unhide HY
      have p5 : But (w.heap.size + 1) w1 (put2 w1 (w.heap.size + 1) (.int .i64 0) (.int .i64 0)) := But.set.trans But.set
      have R := Y1.put (.int .i64 0) (.int .i64 0)
      have r0 := hide R.at0
      have r1' := hide R.at1
      have HN5 := hide ((unhide HN1).but p5 (by omega))
      have HF5 := hide ((But.of (p := bn) (unhide HB)).on (p5.below (by omega) (unhide HB).size))
      have x0 := Y1.at0
      have x1 := Y1.at1
      have t0 := Y1.th0
      have t1 := Y1.th1
      have lx := Y1.low
      clear hn CK HY HX6 HTk HTl HL2 HLn HPOS R p5 HB Y1
      go_wp2
      refine bodyPost_ret (v := .tuple #[shn 0 0, .int .i64 5]) (by simp [results, Tryz.results111, go_sem, unhide r0, unhide r1']) rfl ⟨by rw [unhide HCR]; rfl, unhide HN5, unhide HF5⟩
end Go.Proofs.YtnegjbkbfgkkjaaGreatDoor

/- Walks: ofEach. (Written by gen_yt.py.) -/
namespace Go.Proofs.YtnegjbkbfgkkjaaGreatDoor
open Go.RowKit Go.MapKept

section
variable {a : Act} {w : World} {d : Option Nat} {t : TypeId} {p : String} {af : Array Edge} {g : Option (Nat × Bool)}
theorem run_fx7 {x : Operand} {b : Nat} (h : a.eval x = .pointer (some ⟨b, 0, none⟩)) : (execOp a.eval ⟨d, .fieldAddr 86 x 2, t, p, af, g⟩).run Tryz.prog w = .ok (.value (.pointer (some ⟨b, 7, none⟩))) w := by
  generalize a.eval = E at h ⊢
  simp [go_sem, h]
theorem run_fx8 {x : Operand} {b : Nat} (h : a.eval x = .pointer (some ⟨b, 0, none⟩)) : (execOp a.eval ⟨d, .fieldAddr 86 x 3, t, p, af, g⟩).run Tryz.prog w = .ok (.value (.pointer (some ⟨b, 8, none⟩))) w := by
  generalize a.eval = E at h ⊢
  simp [go_sem, h]
theorem run_ldStr {x : Operand} {b o : Nat} {s : ByteArray} (h : a.eval x = .pointer (some ⟨b, o, none⟩)) (c : w.cell? ⟨b, o, none⟩ = some (.string s)) : (execOp a.eval ⟨d, .load 9 x, t, p, af, g⟩).run Tryz.prog w = .ok (.value (.string s)) w := by
  generalize a.eval = E at h ⊢
  simp [go_sem, h, c]
theorem run_ldSl {x : Operand} {b o : Nat} {ad : Option Addr} {n cap : Nat} (h : a.eval x = .pointer (some ⟨b, o, none⟩)) (c : w.cell? ⟨b, o, none⟩ = some (.slice ad n cap)) : (execOp a.eval ⟨d, .load 73 x, t, p, af, g⟩).run Tryz.prog w = .ok (.value (.slice ad n cap)) w := by
  generalize a.eval = E at h ⊢
  simp [go_sem, h, c]
theorem run_ixX {x y : Operand} {b off n cap : Nat} {i : Nat} (h : a.eval x = .slice (some ⟨b, off, none⟩) n cap) (hy : a.eval y = .int .i64 (i : Int)) (hi : (i : Int) < (n : Int)) :
    (execOp a.eval ⟨d, .indexAddr 73 x y, t, p, af, g⟩).run Tryz.prog w = .ok (.value (.pointer (some ⟨b, off + i * 9, none⟩))) w := by
  generalize a.eval = E at h hy ⊢
  have h0 : (0 : Int) ≤ (i : Int) := by omega
  simp [go_sem, h, hy, hi, h0]
theorem run_ldX9 {x : Operand} {b o : Nat} {u0 u1 u2 u3 u4 u5 u6 u7 u8 : Value} (h : a.eval x = .pointer (some ⟨b, o, none⟩)) (c : w.cell? ⟨b, o, none⟩ = some u0 ∧ w.cell? ⟨b, o + 1, none⟩ = some u1 ∧ w.cell? ⟨b, o + 2, none⟩ = some u2 ∧ w.cell? ⟨b, o + 3, none⟩ = some u3 ∧ w.cell? ⟨b, o + 4, none⟩ = some u4 ∧ w.cell? ⟨b, o + 5, none⟩ = some u5 ∧ w.cell? ⟨b, o + 6, none⟩ = some u6 ∧ w.cell? ⟨b, o + 7, none⟩ = some u7 ∧ w.cell? ⟨b, o + 8, none⟩ = some u8) :
    (execOp a.eval ⟨d, .load 86 x, t, p, af, g⟩).run Tryz.prog w = .ok (.value (.agg #[u0, u1, u2, u3, u4, u5, u6, u7, u8])) w := by
  obtain ⟨c0, c1, c2, c3, c4, c5, c6, c7, c8⟩ := c
  generalize a.eval = E at h ⊢
  simp [go_sem, h, c0, c1, c2, c3, c4, c5, c6, c7, c8]
theorem run_ext0 {x : Operand} {u v : Value} (h : a.eval x = .tuple #[u, v]) : (execOp a.eval ⟨d, .extract x 0, t, p, af, g⟩).run Tryz.prog w = .ok (.value u) w := by
  generalize a.eval = E at h ⊢
  simp [go_sem, h]
theorem run_ext1 {x : Operand} {u v : Value} (h : a.eval x = .tuple #[u, v]) : (execOp a.eval ⟨d, .extract x 1, t, p, af, g⟩).run Tryz.prog w = .ok (.value v) w := by
  generalize a.eval = E at h ⊢
  simp [go_sem, h]
theorem run_al2 : (execOp a.eval ⟨d, .alloc 158, t, p, af, g⟩).run Tryz.prog w = .ok (.value (.pointer (some ⟨w.heap.size, 0, none⟩))) (w.alloc (.cells #[.int .i64 0, .int .i64 0] 158)) := by
  generalize a.eval = E
  simp [go_sem]
theorem run_call4 {n : Nat} {x y z u : Operand} {vx vy vz vu : Value} {ts : Array TypeId} (hx : a.eval x = vx) (hy : a.eval y = vy) (hz : a.eval z = vz) (hu : a.eval u = vu) (hf : ∀ (zs : Array Value) (w : World), Sem.run Tryz.prog (callFunc n zs) w = .ok (.enter n zs) w) :
    (execOp a.eval ⟨d, .call { callee := .value (.func n), args := #[x, y, z, u], argTypes := ts }, t, p, af, g⟩).run Tryz.prog w = .ok (.enter n #[vx, vy, vz, vu]) w := by
  have e1 : a.eval (.func n) = .func (.func n) #[] #[] := rfl
  generalize a.eval = E at hx hy hz hu e1 ⊢
  simp [go_sem, hx, hy, hz, hu, e1, hf]
end
theorem callTW (zs : Array Value) (w : World) : Sem.run Tryz.prog (callFunc 146 zs) w = .ok (.enter 146 zs) w := by simp [go_sem]

set_option maxRecDepth 100000 in
theorem frame_54 {a : Act} (hs : a.tmps.size = 54) (hd : a.defers = []) :
    ∃ v0 v1 v2 v3 v4 v5 v6 v7 v8 v9 v10 v11 v12 v13 v14 v15 v16 v17 v18 v19 v20 v21 v22 v23 v24 v25 v26 v27 v28 v29 v30 v31 v32 v33 v34 v35 v36 v37 v38 v39 v40 v41 v42 v43 v44 v45 v46 v47 v48 v49 v50 v51 v52 v53 : Value, a = { tmps := #[v0, v1, v2, v3, v4, v5, v6, v7, v8, v9, v10, v11, v12, v13, v14, v15, v16, v17, v18, v19, v20, v21, v22, v23, v24, v25, v26, v27, v28, v29, v30, v31, v32, v33, v34, v35, v36, v37, v38, v39, v40, v41, v42, v43, v44, v45, v46, v47, v48, v49, v50, v51, v52, v53], defers := [] } ∧ v0 = G a 0 ∧ v3 = G a 3 ∧ v4 = G a 4 ∧ v7 = G a 7 ∧ v8 = G a 8 := by
  have e : a = { tmps := #[G a 0, G a 1, G a 2, G a 3, G a 4, G a 5, G a 6, G a 7, G a 8, G a 9, G a 10, G a 11, G a 12, G a 13, G a 14, G a 15, G a 16, G a 17, G a 18, G a 19, G a 20, G a 21, G a 22, G a 23, G a 24, G a 25, G a 26, G a 27, G a 28, G a 29, G a 30, G a 31, G a 32, G a 33, G a 34, G a 35, G a 36, G a 37, G a 38, G a 39, G a 40, G a 41, G a 42, G a 43, G a 44, G a 45, G a 46, G a 47, G a 48, G a 49, G a 50, G a 51, G a 52, G a 53], defers := [] } := frame_is hs hd
  exact ⟨_, _, _, _, _, _, _, _, _, _, _, _, _, _, _, _, _, _, _, _, _, _, _, _, _, _, _, _, _, _, _, _, _, _, _, _, _, _, _, _, _, _, _, _, _, _, _, _, _, _, _, _, _, _, e, rfl, rfl, rfl, rfl, rfl⟩

/-- all but the names' map is as it was, and that tells what it told -/
def Kn (bn : Nat) (f : ByteArray → Option Value) (w w' : World) : Prop := But bn w w' ∧ (MapF bn f w → MapF bn f w')
theorem Kn.trans {bn : Nat} {f : ByteArray → Option Value} : ∀ x y z, Kn bn f x y → Kn bn f y z → Kn bn f x z := fun _ _ _ h k => ⟨h.1.trans k.1, fun q => k.2 (h.2 q)⟩
theorem Kn.of {bn : Nat} {f : ByteArray → Option Value} {w w' : World} (h : Below w.heap.size w w') : Kn bn f w w' := ⟨But.of h, fun q => q.keep h⟩
theorem XMemL.two {B : Nat} {w : World} {x y : XT} {b off : Nat} (h : XMemL B w [x, y] b off) : ∃ cs ds, Nine w b off cs ∧ XMem B w x cs ∧ Nine w b (off + 1 * 9) ds ∧ XMem B w y ds := by
  rw [XMemL, XMemL] at h
  obtain ⟨⟨cs, h1, h2⟩, ⟨ds, h3, h4⟩, _⟩ := h
  exact ⟨cs, ds, h1, h2, h3, h4⟩

set_option maxRecDepth 100000 in
set_option maxHeartbeats 16000000 in
theorem ofEach_any (x y : XT) (IHx : TypedC x) (IHy : TypedC y) {B lo bt bn bf : Nat} {E : Ev} {M : Nat} {w : World} (S : TyS B lo bt bn bf E M w) (k vk : Int) (vy : Bool) (vc vx : Int) (vt : ByteArray) (va : Option Addr) (vn vp : Nat) (s : ByteArray) (b off cap : Nat) (hb : b < B) (hm : XMemL B w [x, y] b off) (okx : x.ok) (oky : y.ok) (hM : M + x.size + y.size ≤ 50000) :
    Calls Tryz.prog 112 #[.pointer (some ⟨bt, 0, none⟩), .agg #[.int .i64 k, .int .i64 vk, .bool vy, .int .i64 vc, .int .i64 vx, .string vt, .slice va vn vp, .string s, .slice (some ⟨b, off, none⟩) 2 cap]] w fun e w' => e = .returned (.tuple #[sh (tyE k s [x, y] E).2, .int .i64 (tyE k s [x, y] E).1]) ∧ MapF bn (envV E) w' ∧ But bn w w' := by
  have hlo := S.lowB
  have hbn := S.names.low
  have hlon := S.lon
  obtain ⟨xcs, ycs, nx, mx, ny, my⟩ := hm.two
  obtain ⟨xk, xvk, xvy, xvc, xvx, xvt, xva, xvn, xvp, xs, xa, xn, xp, rfl⟩ := mx.form
  obtain ⟨yk, yvk, yvy, yvc, yvx, yvt, yva, yvn, yvp, ys, ya, yn, yp, rfl⟩ := my.form
  obtain ⟨z0, z1, z2, z3, z4, z5, z6, z7, z8, hcs, cx⟩ := nx
  simp only [Array.mk.injEq, List.cons.injEq, and_true] at hcs
  obtain ⟨rfl, rfl, rfl, rfl, rfl, rfl, rfl, rfl, rfl⟩ := hcs
  obtain ⟨z0, z1, z2, z3, z4, z5, z6, z7, z8, hcs, cy⟩ := ny
  simp only [Array.mk.injEq, List.cons.injEq, and_true] at hcs
  obtain ⟨rfl, rfl, rfl, rfl, rfl, rfl, rfl, rfl, rfl⟩ := hcs
  obtain ⟨w0, hw0⟩ : ∃ w0, w0 = (w.alloc (.cells #[.int .i64 k, .int .i64 vk, .bool vy, .int .i64 vc, .int .i64 vx, .string vt, .slice va vn vp, .string s, .slice (some ⟨b, off, none⟩) 2 cap] 86)).alloc (.cells #[.int .i64 0, .int .i64 0] 158) := ⟨_, rfl⟩
  have B0 : Below w.heap.size w w0 := by rw [hw0]; exact below2 w _ _
  have X9 : V9 w0 w.heap.size (.int .i64 k) (.int .i64 vk) (.bool vy) (.int .i64 vc) (.int .i64 vx) (.string vt) (.slice va vn vp) (.string s) (.slice (some ⟨b, off, none⟩) 2 cap) := by
    rw [hw0]; exact (V9.new w 86 _ _ _ _ _ _ _ _ _).keep ((Below.refl _ _).alloc (Nat.le_refl _) _) (by simp)
  have Y0 : Bx2 w0 (w.heap.size + 1) (.int .i64 0) (.int .i64 0) := by
    rw [hw0]
    have := Bx2.new (w.alloc (.cells #[.int .i64 k, .int .i64 vk, .bool vy, .int .i64 vc, .int .i64 vx, .string vt, .slice va vn vp, .string s, .slice (some ⟨b, off, none⟩) 2 cap] 86)) 158 (.int .i64 0) (.int .i64 0)
    simpa using this
  have S0 := S.keep B0
  have Cx := hide (IHx B lo bt bn bf E M w0 _ (XMem.below (B0.mono (by omega)) mx) okx S0 (by omega))
  have hBx := tyF_bd x E M S.bd
  have HT : Hid (tyE k s [x, y] E = if (tyF x E).1 ≠ 0 then ((tyF x E).1, ⟨0, 0⟩) else if (tyF x E).2.mayB 5 = false then (9, ⟨0, 0⟩) else lastF k (tyF y (E.upd s (some (tyF x E).2.elem)))) := hide (by rw [tyE, tyE2])
  have HBY := hide (fun a ha => tyF_bd y (E.upd s (some a)) (M + x.size) ((S.bd.mono (by omega)).upd _ _ ha))
  have CTW := hide (fun (a : Sp) (wx : World) (hk : Kn bn (envV E) w0 wx) (ha : a.n ≤ M + x.size) => typedWith_any y IHy (S0.but hk.1 (hk.2 S0.names) (S0.bd.mono (show M ≤ M + x.size by omega))) s a (XMem.below ((But.of (p := bn) B0).trans hk.1 |>.below hlo (by omega)) my) oky ha (by omega))
  generalize tyE k s [x, y] E = ER at *
  generalize tyF x E = r at *
  obtain ⟨r1, r2⟩ := r
  simp only at Cx HT hBx
  have a0 := (S0.box).at0
  have bl : b < w.heap.size := by omega
  have d0 := fun (o : Nat) => (B0.cell (p := ⟨b, o, none⟩) bl)
  have c8 := X9.tell.2.2.2.2.2.2.2.2
  obtain ⟨e0, e1, e2, e3, e4, e5, e6, e7, e8⟩ := cx
  replace e0 := (d0 off).trans e0
  replace e1 := (d0 (off + 1)).trans e1
  replace e2 := (d0 (off + 2)).trans e2
  replace e3 := (d0 (off + 3)).trans e3
  replace e4 := (d0 (off + 4)).trans e4
  replace e5 := (d0 (off + 5)).trans e5
  replace e6 := (d0 (off + 6)).trans e6
  replace e7 := (d0 (off + 7)).trans e7
  replace e8 := (d0 (off + 8)).trans e8
  have CY := hide cy
  have HX9 := hide X9
  have HY0 := hide Y0
  have HB0 := hide B0
  have HN0 := hide S0.names
  have z0 : w0.heap.size = w.heap.size + 1 + 1 := by rw [hw0]; simp
  have l9 : w.heap.size < w0.heap.size := by omega
  have l8 : w.heap.size + 1 < w0.heap.size := by omega
  have hbw0 : b < w0.heap.size := by omega
  clear z0 cy d0 X9 Y0 B0 S0 S IHx IHy mx my okx oky hm
  go_enter Tryz.func112, Tryz.ntmps112
  go_upto_region 1 with fail
  rw [← hw0]
  clear hw0
  go_wp2_with fail
  with_reducible refine (unhide Cx).mono ?_
  rintro e w1 ⟨rfl, N1, Bt1⟩
  clear e0 e1 e2 e3 e4 e5 e6 e7 e8 c8 a0 Cx
  obtain ⟨w2, hw2⟩ : ∃ w2, w2 = w1.alloc (.cells #[.int .i64 (r2.n : Int), .int .i64 r2.k] 158) := ⟨_, rfl⟩
  have B2 : Below w1.heap.size w1 w2 := by rw [hw2]; exact (Below.refl _ _).alloc (Nat.le_refl _) _
  have X6 : Bx2 w2 w1.heap.size (.int .i64 (r2.n : Int)) (.int .i64 r2.k) := by rw [hw2]; exact Bx2.new w1 _ _ _
  have K2 : Kn bn (envV E) w0 w2 := Kn.trans _ _ _ ⟨Bt1, fun _ => N1⟩ (Kn.of B2)
  have lz1 : w0.heap.size ≤ w1.heap.size := Bt1.size
  have lz2 : w1.heap.size < w2.heap.size := X6.low
  have fin : ∀ (wx : World) (n q : Int), Kn bn (envV E) w0 wx → MapF bn (envV E) (put2 wx (w.heap.size + 1) (.int .i64 n) (.int .i64 q)) ∧ But bn w (put2 wx (w.heap.size + 1) (.int .i64 n) (.int .i64 q)) ∧ Bx2 wx (w.heap.size + 1) (.int .i64 0) (.int .i64 0) := fun wx n q hk => by
    have p5 : But (w.heap.size + 1) wx (put2 wx (w.heap.size + 1) (.int .i64 n) (.int .i64 q)) := But.set.trans But.set
    have hB : But bn w wx := (But.of (p := bn) (unhide HB0)).trans hk.1
    exact ⟨(hk.2 (unhide HN0)).but p5 (by omega), hB.on (p5.below (by omega) hB.size), (unhide HY0).but hk.1 (by omega)⟩
  have FIN := hide fin
  have HK2 := hide K2
  have HX6 := hide X6
  clear N1 Bt1 B2 K2 X6 fin
  by_cases hr : r1 = 0
  · subst hr
    rw [if_neg (by simp)] at HT
    have f60 := (unhide HX6).at0
    have f61 := (unhide HX6).at1
    have MB := hide (fun wx => mayBe_any r2 5 wx)
    generalize r2.mayB 5 = p at *
    rw [hw2] at f60 f61
    go_wp2_with fail
    rw [← hw2]
    clear hw2 f60 f61
    with_reducible refine (unhide MB _).mono ?_
    rintro e w3 ⟨rfl, hb3⟩
    have K3 := hide (Kn.trans _ _ _ (unhide HK2) (Kn.of hb3))
    have HX63 := hide ((unhide HX6).keep hb3 (unhide HX6).low)
    have lz3 : w2.heap.size ≤ w3.heap.size := hb3.size
    clear hb3 HX6 HK2 MB
    cases p
    · rw [if_pos rfl] at HT
      obtain ⟨n5, b5, Y⟩ := unhide FIN w3 0 0 (unhide K3)
      have HN5 := hide n5
      have HF5 := hide b5
      have R := Y.put (.int .i64 0) (.int .i64 0)
      have r0 := hide R.at0
      have r1' := hide R.at1
      have x0 := Y.at0
      have x1 := Y.at1
      have t0 := Y.th0
      have t1 := Y.th1
      have lx := Y.low
      clear n5 b5 Y R K3 HX63 FIN CTW
      go_wp2
      refine bodyPost_ret (v := .tuple #[shn 0 0, .int .i64 9]) (by simp [results, Tryz.results112, go_sem, unhide r0, unhide r1']) rfl ⟨by rw [unhide HT]; rfl, unhide HN5, unhide HF5⟩
    · rw [if_neg (by simp)] at HT
      have hr2 : r2.n ≤ 100000 := by omega
      have CE : Hid (∀ wx, Calls Tryz.prog 135 #[sh r2] wx fun e w' => ∃ u, e = .returned u ∧ u = sh r2.elem ∧ Kn bn (envV E) wx w') := hide (fun wx => (elem_any r2 wx hr2).mono (fun _ _ q => ⟨_, q.1, rfl, Kn.of q.2⟩))
      have hel : r2.elem.n ≤ M + x.size := Nat.le_trans (elem_bd r2) hBx
      have HYN := hide (unhide HBY r2.elem (fun b hb => by cases hb; exact hel))
      have CT : Hid (∀ wx, Kn bn (envV E) w3 wx → Calls Tryz.prog 146 #[.pointer (some ⟨bt, 0, none⟩), .string s, sh r2.elem, .agg #[.int .i64 yk, .int .i64 yvk, .bool yvy, .int .i64 yvc, .int .i64 yvx, .string yvt, .slice yva yvn yvp, .string ys, .slice ya yn yp]] wx fun e w' => ∃ u, e = .returned u ∧ u = .tuple #[sh (tyF y (E.upd s (some r2.elem))).2, .int .i64 (tyF y (E.upd s (some r2.elem))).1] ∧ Kn bn (envV E) wx w') := hide (fun wx hk => (unhide CTW r2.elem wx (Kn.trans _ _ _ (unhide K3) hk) hel).mono (fun _ _ q => ⟨_, q.1, rfl, q.2.2, fun _ => q.2.1⟩))
      generalize tyF y (E.upd s (some r2.elem)) = q at *
      generalize r2.elem = e2 at *
      obtain ⟨q1, q2⟩ := q
      simp only at CT HT HYN
      have TR := hide (@Kn.trans bn (envV E))
      have KPP : Hid (∀ v x y, Kn bn (envV E) x y → (∃ b8, v = Value.pointer (some ⟨b8, 0, none⟩) ∧ w3.heap.size ≤ b8 ∧ Bx2 x b8 (.int .i64 0) (.int .i64 0)) → (∃ b8, v = Value.pointer (some ⟨b8, 0, none⟩) ∧ w3.heap.size ≤ b8 ∧ Bx2 y b8 (.int .i64 0) (.int .i64 0))) := hide (fun v x y hk ⟨b8, h1, h2, h3⟩ => ⟨b8, h1, h2, h3.but hk.1 (by omega)⟩)
      have RA : Hid (∀ wx : World, Kn bn (envV E) wx (wx.alloc (.cells #[.int .i64 0, .int .i64 0] 158))) := hide (fun wx => Kn.of ((Below.refl _ _).alloc (Nat.le_refl _) _))
      have PN : Hid (∀ wx : World, Kn bn (envV E) w3 wx → ∃ b8, Value.pointer (some ⟨wx.heap.size, 0, none⟩) = Value.pointer (some ⟨b8, 0, none⟩) ∧ w3.heap.size ≤ b8 ∧ Bx2 (wx.alloc (.cells #[.int .i64 0, .int .i64 0] 158)) b8 (.int .i64 0) (.int .i64 0)) := hide (fun wx hk => ⟨_, rfl, hk.1.size, Bx2.new wx _ _ _⟩)
      have RP : Hid (∀ (wx : World) (b8 : Nat), Kn bn (envV E) w3 wx → w3.heap.size ≤ b8 → ∀ n k : Int, Kn bn (envV E) w3 (put2 wx b8 (.int .i64 n) (.int .i64 k))) := hide (fun wx b8 hk hl n k => by
        have p5 : But b8 wx (put2 wx b8 (.int .i64 n) (.int .i64 k)) := But.set.trans But.set
        exact ⟨hk.1.on (p5.below hl hk.1.size), fun m => (hk.2 m).but p5 (by omega)⟩)
      have KC : Hid (∀ wx, Kn bn (envV E) w3 wx → wx.cell? ⟨w.heap.size, 7, none⟩ = some (.string s) ∧ wx.cell? ⟨w1.heap.size, 0, none⟩ = some (.int .i64 (r2.n : Int)) ∧ wx.cell? ⟨w1.heap.size, 0 + 1, none⟩ = some (.int .i64 r2.k) ∧ wx.cell? ⟨w.heap.size, 8, none⟩ = some (.slice (some ⟨b, off, none⟩) 2 cap) ∧ (wx.cell? ⟨b, off + 1 * 9, none⟩ = some (.int .i64 yk) ∧ wx.cell? ⟨b, off + 1 * 9 + 1, none⟩ = some (.int .i64 yvk) ∧ wx.cell? ⟨b, off + 1 * 9 + 2, none⟩ = some (.bool yvy) ∧ wx.cell? ⟨b, off + 1 * 9 + 3, none⟩ = some (.int .i64 yvc) ∧ wx.cell? ⟨b, off + 1 * 9 + 4, none⟩ = some (.int .i64 yvx) ∧ wx.cell? ⟨b, off + 1 * 9 + 5, none⟩ = some (.string yvt) ∧ wx.cell? ⟨b, off + 1 * 9 + 6, none⟩ = some (.slice yva yvn yvp) ∧ wx.cell? ⟨b, off + 1 * 9 + 7, none⟩ = some (.string ys) ∧ wx.cell? ⟨b, off + 1 * 9 + 8, none⟩ = some (.slice ya yn yp))) := hide (fun wx hk => by
        have k0 := Kn.trans _ _ _ (unhide K3) hk
        have v9 := (unhide HX9).but k0.1 (by omega)
        have x6 := (unhide HX63).but hk.1 (by omega)
        have hB : But bn w wx := (But.of (p := bn) (unhide HB0)).trans k0.1
        have cb := fun (o : Nat) => hB.cell (q := ⟨b, o, none⟩) bl (by show b ≠ bn; omega)
        obtain ⟨g0, g1, g2, g3, g4, g5, g6, g7, g8⟩ := unhide CY
        exact ⟨v9.tell.2.2.2.2.2.2.2.1, x6.at0, x6.at1, v9.tell.2.2.2.2.2.2.2.2, (cb _).trans g0, (cb _).trans g1, (cb _).trans g2, (cb _).trans g3, (cb _).trans g4, (cb _).trans g5, (cb _).trans g6, (cb _).trans g7, (cb _).trans g8⟩)
      clear CTW HX63 CY hel hr2 HBY
      go_upto_region 6 with fail
      refine frame_name ?_
      intro f0 hf0
      have s0 : G f0 0 = .pointer (some ⟨bt, 0, none⟩) := by rw [hf0]; rfl
      have s3 : G f0 3 = .pointer (some ⟨w.heap.size, 0, none⟩) := by rw [hf0]; rfl
      have s4 : G f0 4 = .pointer (some ⟨w.heap.size + 1, 0, none⟩) := by rw [hf0]; rfl
      have s6 : G f0 6 = .pointer (some ⟨w1.heap.size, 0, none⟩) := by rw [hf0]; rfl
      have hsz : f0.tmps.size = 54 := by rw [hf0]; rfl
      have hdf : f0.defers = [] := by rw [hf0]
      refine region_any (I := RW (Kn bn (envV E)) w3 f0 54 [27, 28, 29, 30, 31, 32, 33, 34, 35, 36, 26, 37, 38, 8, 1000, 7] 14 13 8 (fun v x => ∃ b8, v = Value.pointer (some ⟨b8, 0, none⟩) ∧ w3.heap.size ≤ b8 ∧ Bx2 x b8 (.int .i64 0) (.int .i64 0)) (fun v x => ∃ b8, v = Value.pointer (some ⟨b8, 0, none⟩) ∧ w3.heap.size ≤ b8 ∧ Bx2 x b8 (.int .i64 (q2.n : Int)) (.int .i64 q2.k)) [some (.pointer (some ⟨bt, 0, none⟩)), some (.pointer (some ⟨w.heap.size, 7, none⟩)), some (.string s), some (sh r2), some (sh e2), some (.pointer (some ⟨w.heap.size, 8, none⟩)), some (.slice (some ⟨b, off, none⟩) 2 cap), some (.pointer (some ⟨b, off + 1 * 9, none⟩)), some (.agg #[.int .i64 yk, .int .i64 yvk, .bool yvy, .int .i64 yvc, .int .i64 yvx, .string yvt, .slice yva yvn yvp, .string ys, .slice ya yn yp]), some (.tuple #[sh q2, .int .i64 q1]), some (.tuple #[sh q2, .int .i64 q1]), some (sh q2), some (.int .i64 q1), none, none, some (.int .i64 q1)]) (by kernel_rfl) ?wait ?step ?done ?start
      case wait => exact ⟨by simp <;> rfl, by simp <;> rfl, by simp <;> rfl, by simp <;> rfl, by simp <;> rfl, by simp <;> rfl, by simp <;> rfl, by simp <;> rfl, by simp <;> rfl, by simp <;> rfl, by simp <;> rfl, by simp <;> rfl, by simp <;> rfl, by simp <;> rfl, by simp <;> rfl, by simp <;> rfl, trivial⟩
      case start => exact RW.start hsz hdf (Kn.of ((Below.refl _ _).drew))
      case step =>
        refine ⟨?_, ?_, ?_, ?_, ?_, ?_, ?_, ?_, ?_, ?_, ?_, ?_, ?_, ?_, ?_, ?_, trivial⟩
        · rintro L fa wx h hcl hL hw2
          exact rw_val h (unhide TR) (unhide KPP) (by decide) rfl rfl rfl rfl (by decide) (by decide) (by decide) rfl (run_mv (eval_G ((h.keep (s := 0) (by decide)).trans s0))) rfl
        · rintro L fa wx h hcl hL hw2
          exact rw_val h (unhide TR) (unhide KPP) (by decide) rfl rfl rfl rfl (by decide) (by decide) (by decide) rfl (run_fx7 (eval_G ((h.keep (s := 3) (by decide)).trans s3))) rfl
        · rintro L fa wx h hcl hL hw2
          exact rw_val h (unhide TR) (unhide KPP) (by decide) rfl rfl rfl rfl (by decide) (by decide) (by decide) rfl (run_ldStr (eval_G (show G fa 28 = .pointer (some ⟨w.heap.size, 7, none⟩) from h.got 1 28 _ (hw2 ⟨1, .data⟩ (by simp) rfl) rfl rfl)) ((unhide KC _ h.old).1)) rfl
        · rintro L fa wx h hcl hL hw2
          exact rw_val h (unhide TR) (unhide KPP) (by decide) rfl rfl rfl rfl (by decide) (by decide) (by decide) rfl (run_ldS (eval_G ((h.keep (s := 6) (by decide)).trans s6)) ((unhide KC _ h.old).2.1) ((unhide KC _ h.old).2.2.1)) rfl
        · rintro L fa wx h hcl hL hw2
          exact rw_call h (unhide TR) (unhide KPP) (by decide) rfl rfl rfl rfl (by decide) (by decide) (by decide) (Bool.eq_false_iff.2 fun hq => by have hz := (hcl 14 _ rfl hq ⟨4, .phase⟩ (by simp) rfl); rw [hL] at hz; cases hz) rfl (run_call1 (eval_G (show G fa 30 = sh r2 from h.got 3 30 _ (hw2 ⟨3, .data⟩ (by simp) rfl) rfl rfl)) callElem) (unhide CE _) rfl
        · rintro L fa wx h hcl hL hw2
          exact rw_val h (unhide TR) (unhide KPP) (by decide) rfl rfl rfl rfl (by decide) (by decide) (by decide) rfl (run_fx8 (eval_G ((h.keep (s := 3) (by decide)).trans s3))) rfl
        · rintro L fa wx h hcl hL hw2
          exact rw_val h (unhide TR) (unhide KPP) (by decide) rfl rfl rfl rfl (by decide) (by decide) (by decide) rfl (run_ldSl (eval_G (show G fa 32 = .pointer (some ⟨w.heap.size, 8, none⟩) from h.got 5 32 _ (hw2 ⟨5, .data⟩ (by simp) rfl) rfl rfl)) ((unhide KC _ h.old).2.2.2.1)) rfl
        · rintro L fa wx h hcl hL hw2
          exact rw_val h (unhide TR) (unhide KPP) (by decide) rfl rfl rfl rfl (by decide) (by decide) (by decide) rfl (run_ixX (i := 1) (eval_G (show G fa 33 = .slice (some ⟨b, off, none⟩) 2 cap from h.got 6 33 _ (hw2 ⟨6, .data⟩ (by simp) rfl) rfl rfl)) rfl (by decide)) rfl
        · rintro L fa wx h hcl hL hw2
          exact rw_val h (unhide TR) (unhide KPP) (by decide) rfl rfl rfl rfl (by decide) (by decide) (by decide) rfl (run_ldX9 (eval_G (show G fa 34 = .pointer (some ⟨b, off + 1 * 9, none⟩) from h.got 7 34 _ (hw2 ⟨7, .data⟩ (by simp) rfl) rfl rfl)) ((unhide KC _ h.old).2.2.2.2)) rfl
        · rintro L fa wx h hcl hL hw2
          exact rw_call h (unhide TR) (unhide KPP) (by decide) rfl rfl rfl rfl (by decide) (by decide) (by decide) (Bool.eq_false_iff.2 fun hq => by have hz := (hcl 14 _ rfl hq ⟨9, .phase⟩ (by simp) rfl); rw [hL] at hz; cases hz) rfl (run_call4 (eval_G (show G fa 27 = .pointer (some ⟨bt, 0, none⟩) from h.got 0 27 _ (hw2 ⟨0, .data⟩ (by simp) rfl) rfl rfl)) (eval_G (show G fa 29 = .string s from h.got 2 29 _ (hw2 ⟨2, .data⟩ (by simp) rfl) rfl rfl)) (eval_G (show G fa 31 = sh e2 from h.got 4 31 _ (hw2 ⟨4, .data⟩ (by simp) rfl) rfl rfl)) (eval_G (show G fa 35 = .agg #[.int .i64 yk, .int .i64 yvk, .bool yvy, .int .i64 yvc, .int .i64 yvx, .string yvt, .slice yva yvn yvp, .string ys, .slice ya yn yp] from h.got 8 35 _ (hw2 ⟨8, .data⟩ (by simp) rfl) rfl rfl)) callTW) (unhide CT _ h.old) rfl
        · rintro L fa wx h hcl hL hw2
          exact rw_val h (unhide TR) (unhide KPP) (by decide) rfl rfl rfl rfl (by decide) (by decide) (by decide) rfl (run_mv (eval_G (show G fa 36 = .tuple #[sh q2, .int .i64 q1] from h.got 9 36 _ (hw2 ⟨9, .data⟩ (by simp) rfl) rfl rfl))) rfl
        · rintro L fa wx h hcl hL hw2
          exact rw_val h (unhide TR) (unhide KPP) (by decide) rfl rfl rfl rfl (by decide) (by decide) (by decide) rfl (run_ext0 (eval_G (show G fa 26 = .tuple #[sh q2, .int .i64 q1] from h.got 10 26 _ (hw2 ⟨10, .data⟩ (by simp) rfl) rfl rfl))) rfl
        · rintro L fa wx h hcl hL hw2
          exact rw_val h (unhide TR) (unhide KPP) (by decide) rfl rfl rfl rfl (by decide) (by decide) (by decide) rfl (run_ext1 (eval_G (show G fa 26 = .tuple #[sh q2, .int .i64 q1] from h.got 10 26 _ (hw2 ⟨10, .data⟩ (by simp) rfl) rfl rfl))) rfl
        · rintro L fa wx h hcl hL hw2
          exact rw_new h (unhide TR) (by decide) rfl rfl rfl (by decide) (by decide) (Bool.eq_false_iff.2 fun hq => by have hz := (hcl 14 _ rfl hq ⟨13, .phase⟩ (by simp) rfl); rw [hL] at hz; cases hz) rfl rfl run_al2 (unhide RA _) (unhide PN _ h.old)
        · rintro L fa wx h hcl hL hw2
          obtain ⟨b8, hb8, hl8, X8⟩ := h.new (hw2 ⟨13, .data⟩ (by simp) rfl) hL
          exact rw_store h rfl rfl hb8 (show G fa 37 = sh q2 from h.got 11 37 _ (hw2 ⟨11, .data⟩ (by simp) rfl) rfl rfl) X8 (unhide RP _ b8 h.old hl8 _ _) ⟨b8, hb8, hl8, X8.put _ _⟩
        · rintro L fa wx h hcl hL hw2
          exact rw_val h (unhide TR) (unhide KPP) (by decide) rfl rfl rfl rfl (by decide) (by decide) (by decide) rfl (run_asg (eval_G (show G fa 38 = .int .i64 q1 from h.got 12 38 _ (hw2 ⟨12, .data⟩ (by simp) rfl) rfl rfl))) rfl
      case done =>
        rintro L f1 w4 h hall
        obtain ⟨b8, hb8, hl8, X8⟩ := h.fin (hall 14 (by simp))
        have r7 : G f1 7 = .int .i64 q1 := h.got 15 7 _ (hall 15 (by simp)) rfl rfl
        have g0 := (h.keep (s := 0) (by decide)).trans s0
        have g3 := (h.keep (s := 3) (by decide)).trans s3
        have g4 := (h.keep (s := 4) (by decide)).trans s4
        have K4 := hide (Kn.trans _ _ _ (unhide K3) h.old)
        replace hsz := h.size
        replace hdf := h.defs
        have HX8 := hide X8
        clear h hall hf0 s0 s3 s4 s6 CE CT TR KPP RA PN RP KC X8
        obtain ⟨v0, v1, v2, v3, v4, v5, v6, v7, v8, v9, v10, v11, v12, v13, v14, v15, v16, v17, v18, v19, v20, v21, v22, v23, v24, v25, v26, v27, v28, v29, v30, v31, v32, v33, v34, v35, v36, v37, v38, v39, v40, v41, v42, v43, v44, v45, v46, v47, v48, v49, v50, v51, v52, v53, rfl, p0, p3, p4, p7, p8⟩ := frame_54 hsz hdf
        rw [g0] at p0
        rw [g3] at p3
        rw [g4] at p4
        rw [r7] at p7
        rw [hb8] at p8
        subst p0 p3 p4 p7 p8
        clear g0 g3 g4 r7 hb8 hsz hdf
        by_cases hq : q1 = 0
        · subst hq
          have hqn : q2.n ≤ 100000 := by have := unhide HYN; omega
          have h0 := ((unhide HX9).but (unhide K4).1 (by omega)).tell.1
          have i0 := (unhide HX8).at0
          have i1 := (unhide HX8).at1
          by_cases hk : k = 20
          · subst hk
            have HE : Hid (ER = (0, q2.listed)) := hide ((unhide HT).trans (by simp [lastF]))
            have LI := hide (fun wx => listed_any q2 wx hqn)
            generalize q2.listed = q3 at *
            clear HT HYN hqn
            go_wp2_with fail
            with_reducible refine (unhide LI _).mono ?_
            rintro e w5 ⟨rfl, hb5⟩
            obtain ⟨n5, b5, Y⟩ := unhide FIN w5 (q3.n : Int) q3.k (Kn.trans _ _ _ (unhide K4) (Kn.of hb5))
            have HN5 := hide n5
            have HF5 := hide b5
            have R := Y.put (.int .i64 (q3.n : Int)) (.int .i64 q3.k)
            have r0 := hide R.at0
            have r1' := hide R.at1
            have x0 := Y.at0
            have x1 := Y.at1
            have t0 := Y.th0
            have t1 := Y.th1
            have lx := Y.low
            clear n5 b5 Y R FIN LI h0 i0 i1 hb5 K4 HX8
            go_wp2
            refine bodyPost_ret (v := .tuple #[sh q3, .int .i64 0]) (by simp [results, Tryz.results112, go_sem, unhide r0, unhide r1']) rfl ⟨by rw [unhide HE], unhide HN5, unhide HF5⟩
          · have HE : Hid (ER = orW (⟨0, 2⟩, q2.mayB 2)) := hide ((unhide HT).trans (by simp [lastF, hk]))
            have hk' : (k == 20) = false := by simpa using hk
            have MB := hide (fun wx => mayBe_any q2 2 wx)
            generalize q2.mayB 2 = p at *
            have OW := hide (fun wx => orWrong_any ⟨0, 2⟩ p wx)
            generalize orW (⟨0, 2⟩, p) = o at *
            obtain ⟨o1, o2⟩ := o
            simp only at OW
            have KP : Hid (∀ wx, Below w4.heap.size w4 wx → wx.cell? ⟨b8, 0, none⟩ = some (.int .i64 (q2.n : Int)) ∧ wx.cell? ⟨b8, 1, none⟩ = some (.int .i64 q2.k) ∧ wx.cell? ⟨w.heap.size + 1, 0, none⟩ = some (.int .i64 0) ∧ wx.cell? ⟨w.heap.size + 1, 1, none⟩ = some (.int .i64 0) ∧ wx.frozen? ⟨w.heap.size + 1, 0, none⟩ = false ∧ wx.frozen? ⟨w.heap.size + 1, 1, none⟩ = false ∧ w.heap.size + 1 < wx.heap.size) := hide (fun wx hb => by
              have q := (unhide HX8).keep hb (unhide HX8).low
              have y := (unhide FIN wx 0 0 (Kn.trans _ _ _ (unhide K4) (Kn.of hb))).2.2
              exact ⟨q.at0, q.at1, y.at0, y.at1, y.th0, y.th1, y.low⟩)
            obtain ⟨_, _, x0, x1, t0, t1, lx⟩ := unhide KP w4 (Below.refl _ _)
            clear HT HYN hqn hk HX8
            go_wp2_with fail
            first
            | go_region_with (first
              | (go_at_call 143; refine (plain_any _ _).mono ?_; rintro e w5 ⟨rfl, hb⟩; replace hb : Below w4.heap.size w4 w5 := below_via (by repeat (first | assumption | exact Below.refl _ _ | apply Below.drew)) hb; obtain ⟨i0, i1, x0, x1, t0, t1, lx⟩ := unhide KP _ hb)
              | (go_at_call 145; refine (unhide MB _).mono ?_; rintro e w5 ⟨rfl, hb⟩; replace hb : Below w4.heap.size w4 w5 := below_via (by repeat (first | assumption | exact Below.refl _ _ | apply Below.drew)) hb; obtain ⟨i0, i1, x0, x1, t0, t1, lx⟩ := unhide KP _ hb)
              | (go_at_call 114; refine (unhide OW _).mono ?_; rintro e w5 ⟨rfl, hb⟩; replace hb : Below w4.heap.size w4 w5 := below_via (by repeat (first | assumption | exact Below.refl _ _ | apply Below.drew)) hb; obtain ⟨i0, i1, x0, x1, t0, t1, lx⟩ := unhide KP _ hb))
            | fail
            all_goals
              obtain ⟨n5, b5, Y⟩ := unhide FIN _ (o2.n : Int) o2.k (Kn.trans _ _ _ (unhide K4) (Kn.of hb))
              have HN5 := hide n5
              have HF5 := hide b5
              have R := Y.put (.int .i64 (o2.n : Int)) (.int .i64 o2.k)
              have r0 := hide R.at0
              have r1' := hide R.at1
              clear n5 b5 Y R FIN MB OW KP K4
              go_wp2
              refine bodyPost_ret (v := .tuple #[sh o2, .int .i64 o1]) (by simp [results, Tryz.results112, go_sem, unhide r0, unhide r1']) rfl ⟨by rw [unhide HE], unhide HN5, unhide HF5⟩
        · have HE : Hid (ER = (q1, ⟨0, 0⟩)) := hide ((unhide HT).trans (by simp [lastF, hq]))
          have hq' : (q1 != 0) = true := by simpa using hq
          obtain ⟨n5, b5, Y⟩ := unhide FIN w4 0 0 (unhide K4)
          have HN5 := hide n5
          have HF5 := hide b5
          have R := Y.put (.int .i64 0) (.int .i64 0)
          have r0 := hide R.at0
          have r1' := hide R.at1
          have x0 := Y.at0
          have x1 := Y.at1
          have t0 := Y.th0
          have t1 := Y.th1
          have lx := Y.low
          clear n5 b5 Y R FIN HT HYN hq K4 HX8
          go_wp2
          refine bodyPost_ret (v := .tuple #[shn 0 0, .int .i64 q1]) (by simp [results, Tryz.results112, go_sem, unhide r0, unhide r1']) rfl ⟨by rw [unhide HE]; rfl, unhide HN5, unhide HF5⟩
  · rw [if_pos hr] at HT
    have hr' : (r1 != 0) = true := by simpa using hr
    obtain ⟨n5, b5, Y⟩ := unhide FIN w2 0 0 (unhide HK2)
    have HN5 := hide n5
    have HF5 := hide b5
    have R := Y.put (.int .i64 0) (.int .i64 0)
    have r0 := hide R.at0
    have r1' := hide R.at1
    have x0 := Y.at0
    have x1 := Y.at1
    have t0 := Y.th0
    have t1 := Y.th1
    have lx := Y.low
    clear n5 b5 Y R FIN HK2 HX6 CTW hr
    go_upto_region 2 with fail
    rw [← hw2]
    clear hw2
    go_wp2
    refine bodyPost_ret (v := .tuple #[shn 0 0, .int .i64 r1]) (by simp [results, Tryz.results112, go_sem, unhide r0, unhide r1']) rfl ⟨by rw [unhide HT]; rfl, unhide HN5, unhide HF5⟩
end Go.Proofs.YtnegjbkbfgkkjaaGreatDoor
