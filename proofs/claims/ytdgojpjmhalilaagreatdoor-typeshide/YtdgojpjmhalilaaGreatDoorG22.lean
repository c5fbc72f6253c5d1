/- Walks: ofCall. -/
import Derived.Test.YtdgojpjmhalilaaGreatDoorG20
import Derived.BigRegion
import Derived.Laws.EntriesVeiled
namespace Go.Proofs.YtdgojpjmhalilaaGreatDoor
open Go.RowKit Go.MapKept

theorem info_fn : (Tryz.prog.info? 99).map (fun i => (i.zero, i.size, i.bytes)) = some (some (.agg #[.slice none 0 0, .nilFunc]), 2, 32) := by kernel_rfl
theorem zero_fn (w : World) : (zeroValue 99).run Tryz.prog w = .ok (.agg #[.slice none 0 0, .nilFunc]) w := by
  obtain ⟨i0, hi, hz0, hz1, hz2⟩ := info_parts info_fn
  simp [zeroValue, typeInfo, hi, hz0]

set_option maxRecDepth 100000 in
set_option maxHeartbeats 8000000 in
theorem ofCall_none {B lo bt bn bf : Nat} {E : Ev} {M : Nat} {w : World} (S : TyS B lo bt bn bf E M w) (xk vk : Int) (vy : Bool) (vc vx : Int) (vt : ByteArray) (va : Option Addr) (vn vp : Nat) (s : ByteArray) (a : Option Addr) (n cap : Nat) (hf : fnIn fnTab s.data.toList = none) :
    Calls Tryz.prog 21 #[.pointer (some ⟨bt, 0, none⟩), .agg #[.int .i64 xk, .int .i64 vk, .bool vy, .int .i64 vc, .int .i64 vx, .string vt, .slice va vn vp, .string s, .slice a n cap]] w fun e w' => e = .returned (.tuple #[shn 0 0, .int .i64 7]) ∧ Below w.heap.size w w' := by
  obtain ⟨w0, hw0⟩ : ∃ w0, w0 = (w.alloc (.cells #[.int .i64 xk, .int .i64 vk, .bool vy, .int .i64 vc, .int .i64 vx, .string vt, .slice va vn vp, .string s, .slice a n cap] 29)).alloc (.cells #[.int .i64 0, .int .i64 0] 47) := ⟨_, rfl⟩
  have B0 : Below w.heap.size w w0 := by rw [hw0]; exact below2 w _ _
  have X9 : V9 w0 w.heap.size (.int .i64 xk) (.int .i64 vk) (.bool vy) (.int .i64 vc) (.int .i64 vx) (.string vt) (.slice va vn vp) (.string s) (.slice a n cap) := by
    rw [hw0]; exact (V9.new w 29 _ _ _ _ _ _ _ _ _).keep ((Below.refl _ _).alloc (Nat.le_refl _) _) (by simp)
  have Y0 : Bx2 w0 (w.heap.size + 1) (.int .i64 0) (.int .i64 0) := by
    rw [hw0]
    have := Bx2.new (w.alloc (.cells #[.int .i64 xk, .int .i64 vk, .bool vy, .int .i64 vc, .int .i64 vx, .string vt, .slice va vn vp, .string s, .slice a n cap] 29)) 47 (.int .i64 0) (.int .i64 0)
    simpa using this
  obtain ⟨f, F1, F2⟩ := (S.keep B0).fns.tell
  have hfs : f s = none := by have := F2 s; rw [hf] at this; exact this
  have hlk1 := (F1.keep ((Below.refl w0.heap.size w0).drew)).miss Tryz.underlying58 Tryz.underlying9 (zero_fn _) hfs
  have hlk2 := (F1.keep ((Below.refl w0.heap.size w0).alloc (Nat.le_refl _) (.cells #[.slice none 0 0, .nilFunc] 99)).drew).miss Tryz.underlying58 Tryz.underlying9 (zero_fn _) hfs
  have b1 := (S.box.keep B0 S.box.low).at1
  have c7 := X9.tell.2.2.2.2.2.2.2.1
  have hbt := S.box.low
  have z0 : w0.heap.size = w.heap.size + 1 + 1 := by rw [hw0]; simp
  have hbt0 : bt < w0.heap.size := by omega
  have l9 : w.heap.size < w0.heap.size := by omega
  clear z0
  have HB := hide B0
  have x0 := Y0.at0
  have x1 := Y0.at1
  have t0 := Y0.th0
  have t1 := Y0.th1
  have lx := Y0.low
  clear S F1 F2 hfs X9 Y0 B0 hf
  go_enter Tryz.func21, Tryz.ntmps21
  go_upto_region 1 with fail
  rw [← hw0]
  clear hw0
  go_region
  all_goals
    go_wp2
    refine bodyPost_ret (v := .tuple #[shn 0 0, .int .i64 7]) (by simp [results, Tryz.results21, go_sem, x0, x1, lx]) rfl ⟨rfl, ?_⟩
    repeat (first | exact unhide HB | refine Below.setCell ?_ (by simp) _ | refine Below.alloc ?_ (by first | (simp [World.setCell]; omega) | omega) _ | apply Below.drew)

set_option maxRecDepth 100000 in
set_option maxHeartbeats 8000000 in
theorem ofCall_some (ks : List XT) (IH : ∀ u ∈ ks, TypedC u) {B lo bt bn bf : Nat} {E : Ev} {M : Nat} {w : World} (S : TyS B lo bt bn bf E M w) (xk vk : Int) (vy : Bool) (vc vx : Int) (vt : ByteArray) (va : Option Addr) (vn vp : Nat) (s : ByteArray) (a : Option Addr) (cap : Nat) (q : List Int × Tl) (hf : fnIn fnTab s.data.toList = some q) (hk : ks ≠ [] → ∃ b off, a = some ⟨b, off, none⟩ ∧ b < B ∧ XMemL B w ks b off) (hok : okL ks) (hM : M + sizeL ks ≤ 50000) :
    Calls Tryz.prog 21 #[.pointer (some ⟨bt, 0, none⟩), .agg #[.int .i64 xk, .int .i64 vk, .bool vy, .int .i64 vc, .int .i64 vx, .string vt, .slice va vn vp, .string s, .slice a ks.length cap]] w fun e w' => e = .returned (.tuple #[sh (callF (some q) ks.length (tyL ks E)).2, .int .i64 (callF (some q) ks.length (tyL ks E)).1]) ∧ MapF bn (envV E) w' ∧ But bn w w' := by
  obtain ⟨tk, tl⟩ := q
  have hpos := fn_pos hf
  obtain ⟨w0, hw0⟩ : ∃ w0, w0 = (w.alloc (.cells #[.int .i64 xk, .int .i64 vk, .bool vy, .int .i64 vc, .int .i64 vx, .string vt, .slice va vn vp, .string s, .slice a ks.length cap] 29)).alloc (.cells #[.int .i64 0, .int .i64 0] 47) := ⟨_, rfl⟩
  have B0 : Below w.heap.size w w0 := by rw [hw0]; exact below2 w _ _
  have X9 : V9 w0 w.heap.size (.int .i64 xk) (.int .i64 vk) (.bool vy) (.int .i64 vc) (.int .i64 vx) (.string vt) (.slice va vn vp) (.string s) (.slice a ks.length cap) := by
    rw [hw0]; exact (V9.new w 29 _ _ _ _ _ _ _ _ _).keep ((Below.refl _ _).alloc (Nat.le_refl _) _) (by simp)
  have Y0 : Bx2 w0 (w.heap.size + 1) (.int .i64 0) (.int .i64 0) := by
    rw [hw0]
    have := Bx2.new (w.alloc (.cells #[.int .i64 xk, .int .i64 vk, .bool vy, .int .i64 vc, .int .i64 vx, .string vt, .slice va vn vp, .string s, .slice a ks.length cap] 29)) 47 (.int .i64 0) (.int .i64 0)
    simpa using this
  have S0 := S.keep B0
  obtain ⟨f, F1, F2⟩ := S0.fns.tell
  obtain ⟨bk, fcap, fv, hfs, hTk, hbk, hTl, hcf⟩ : ∃ bt cap fv, f s = some (.agg #[.slice (some ⟨bt, 0, none⟩) tk.length cap, fv]) ∧ TkV lo w0 tk bt ∧ bt ≠ bf ∧ TlV lo w0 tl fv ∧ (∀ c, fv = .func (.func 62) #[] #[.pointer (some ⟨c, 0, none⟩)] → c ≠ bf) := by have := F2 s; rw [hf] at this; exact this
  obtain ⟨fn, fx, fy, rfl⟩ := hTl.func
  have hlk1 := (F1.keep ((Below.refl w0.heap.size w0).drew)).look Tryz.underlying58 Tryz.underlying9 hfs
  have hlk2 := (F1.keep ((Below.refl w0.heap.size w0).alloc (Nat.le_refl _) (.cells #[.slice none 0 0, .nilFunc] 99)).drew).look Tryz.underlying58 Tryz.underlying9 hfs
  have b1 := S0.box.at1
  have c7 := X9.tell.2.2.2.2.2.2.2.1
  have hbt := S.box.low
  have z0 : w0.heap.size = w.heap.size + 1 + 1 := by rw [hw0]; simp
  have hbt0 : bt < w0.heap.size := by omega
  have l9 : w.heap.size < w0.heap.size := by omega
  have l8 : w.heap.size + 1 < w0.heap.size := by omega
  have hlo := S.lowB
  have hbn := S.names.low
  have hlon := S.lon
  obtain ⟨w1, hw1⟩ : ∃ w1, w1 = (w0.alloc (.cells #[.slice (some ⟨bk, 0, none⟩) tk.length fcap, .func fn fx fy] 99)).drew := ⟨_, rfl⟩
  have B1 : Below w0.heap.size w0 w1 := by rw [hw1]; exact ((Below.refl _ _).alloc (Nat.le_refl _) _).drew
  have X6 : Bx2 w1 w0.heap.size (.slice (some ⟨bk, 0, none⟩) tk.length fcap) (.func fn fx fy) := by rw [hw1]; exact (Bx2.new w0 99 _ _).keep (B := w0.heap.size + 1) ((Below.refl _ _).drew) (by omega)
  have S1 := S0.keep B1
  have X9' := X9.keep B1 X9.low
  have HY := hide (Y0.keep B1 Y0.low)
  have B2 : Below w.heap.size w w1 := below_via B0 B1
  have HTk := hide (hTk.left (p := bn) (Left.of B1) (by have := hTk.1; omega))
  have HTl := hide (hTl.left (p := bn) (Left.of B1) (fun c hc => by
    rw [hc] at hTl
    cases tl with
    | always x => obtain ⟨c', hv, h1, _⟩ := hTl; simp at hv; omega
    | elem => simp [TlV] at hTl
    | elems => simp [TlV] at hTl
    | sum => simp [TlV] at hTl
    | between => simp [TlV] at hTl))
  have CK := hide (ofKids_any ks IH S1 (cap := cap) (fun hne => by
    obtain ⟨b, off, ha, hl, hm⟩ := hk hne
    exact ⟨b, off, ha, hl, XMemL.below (B2.mono (by omega)) hl hm⟩) hok hM)
  have HL2 := hide (tyL_bd ks E M S.bd)
  have HLn := hide (tyL_len ks E)
  have c8 := X9'.tell.2.2.2.2.2.2.2.2
  have f0 := X6.at0
  have HX6 := hide X6
  have HB := hide B2
  have HN1 := hide S1.names
  have EC : Hid (∀ r, callF (some (tk, tl)) ks.length r = if ks.length ≠ tk.length then (5, ⟨0, 0⟩) else if r.1 ≠ 0 then (r.1, ⟨0, 0⟩) else orW (ofF tk tl r.2)) := hide (fun _ => rfl)
  have lw1 : w0.heap.size < w1.heap.size := X6.low
  have lw2 : w.heap.size < w1.heap.size := by omega
  have lw3 : w.heap.size + 1 < w1.heap.size := by omega
  generalize tyL ks E = r at *
  obtain ⟨r1, r2⟩ := r
  simp only at CK HL2 HLn hpos
  generalize hcf2 : callF (some (tk, tl)) ks.length (r1, r2) = cr
  have HCR : Hid (cr = if ks.length ≠ tk.length then (5, ⟨0, 0⟩) else if r1 ≠ 0 then (r1, ⟨0, 0⟩) else orW (ofF tk tl r2)) := hide (by rw [← hcf2, unhide EC])
  have HPOS := hide hpos
  have HlenK : ks.length ≤ 50000 := by have := len_sizeL ks; omega
  clear z0 S0 X9 Y0 B0 hTk hTl hcf F1 F2 hfs hk hok IH hf S S1 X9' B1 B2 X6 hcf2 EC hpos
  go_enter Tryz.func21, Tryz.ntmps21
  go_upto_region 1 with fail
  rw [← hw0]
  clear hw0
  go_region
  all_goals
    rw [← hw1]
    clear hw1 hlk1 hlk2 b1 c7
    by_cases hn : ks.length = tk.length
    · have hn' : ((ks.length : Int) != (tk.length : Int)) = false := by simp [hn]
      rw [if_neg (by simp [hn])] at HCR
      have HN := hide hn
      clear hn
      go_wp2_with fail
      with_reducible refine (unhide CK).mono ?_
      rintro e w2 ⟨v, rfl, hSL, hN2, hBt2⟩
      have HY2 := (unhide HY).but hBt2 (by omega)
      have HX62 := (unhide HX6).but hBt2 (by omega)
      have HB2 := hide ((But.of (p := bn) (unhide HB)).trans hBt2)
      have lw : w1.heap.size ≤ w2.heap.size := hBt2.size
      by_cases hr : r1 = 0
      · subst hr
        rw [if_neg (by simp)] at HCR
        have hlr : tk.length = r2.length := by have := unhide HLn rfl; have := unhide HN; omega
        have CO := hide (of_any tk tl bk fcap (.func fn fx fy) w2 ((unhide HTk).left (p := bn) (Left.but hBt2) (by have := (unhide HTk).1; omega)) ((unhide HTl).left (p := bn) (Left.but hBt2) (fun c hc => by
          have hT := unhide HTl
          rw [hc] at hT
          cases tl with
          | always x => obtain ⟨c', hv, h1, _⟩ := hT; simp at hv; omega
          | elem => simp [TlV] at hT
          | elems => simp [TlV] at hT
          | sum => simp [TlV] at hT
          | between => simp [TlV] at hT)) hSL hlr (fun a ha => by have := unhide HL2 a ha; omega) (unhide HPOS))
        generalize ofF tk tl r2 = p at *
        obtain ⟨p1, p2⟩ := p
        simp only at CO
        have g0 := HX62.at0
        have g1 := HX62.at1
        have HYY := hide HY2
        have HN3 := hide hN2
        clear hSL hN2 hBt2 HY2 HX62 CK HY HX6 HTk HTl HL2 HLn HPOS HN c8 f0 hlr
        go_wp2_with fail
        with_reducible refine (unhide CO).mono ?_
        rintro e w3 ⟨rfl, hb3⟩
        have Y3 := hide ((unhide HYY).keep hb3 (unhide HYY).low)
        have N3 := hide ((unhide HN3).keep hb3)
        have B3 := hide ((unhide HB2).trans (But.of (p := bn) hb3))
        have OW := hide (fun wx => orWrong_any p1 p2 wx)
        generalize orW (p1, p2) = o at *
        obtain ⟨o1, o2⟩ := o
        simp only at OW
        clear hb3 HYY HN3 HB2 CO g0 g1
        go_wp2_with fail
        refine (unhide OW _).mono ?_
        rintro e w4 ⟨rfl, hb4⟩
        have Y4 := (unhide Y3).keep hb4 (unhide Y3).low
        have N4 := (unhide N3).keep hb4
        have B4 := (unhide B3).trans (But.of (p := bn) hb4)
        have R := Y4.put (.int .i64 (o2.n : Int)) (.int .i64 o2.k)
        have r0 := hide R.at0
        have r1' := hide R.at1
        have p5 : But (w.heap.size + 1) w4 (put2 w4 (w.heap.size + 1) (.int .i64 (o2.n : Int)) (.int .i64 o2.k)) := But.set.trans But.set
        have HN5 := hide (N4.but p5 (by omega))
        have HF5 := hide (B4.on (p5.below (by omega) B4.size))
        have x0 := Y4.at0
        have x1 := Y4.at1
        have t0 := Y4.th0
        have t1 := Y4.th1
        have lx := Y4.low
        clear hb4 Y3 N3 B3 OW Y4 N4 B4 R p5
        go_wp2
        refine bodyPost_ret (v := .tuple #[sh o2, .int .i64 o1]) (by simp [results, Tryz.results21, go_sem, unhide r0, unhide r1']) rfl ⟨by rw [unhide HCR], unhide HN5, unhide HF5⟩
      · rw [if_pos hr] at HCR
        have hr' : (r1 != 0) = true := by simpa using hr
        have p5 : But (w.heap.size + 1) w2 (put2 w2 (w.heap.size + 1) (.int .i64 0) (.int .i64 0)) := But.set.trans But.set
        have R := HY2.put (.int .i64 0) (.int .i64 0)
        have r0 := hide R.at0
        have r1' := hide R.at1
        have HN5 := hide (hN2.but p5 (by omega))
        have HF5 := hide ((unhide HB2).on (p5.below (by omega) (unhide HB2).size))
        have x0 := HY2.at0
        have x1 := HY2.at1
        have t0 := HY2.th0
        have t1 := HY2.th1
        have lx := HY2.low
        clear hr hSL hN2 hBt2 HY2 HX62 CK HY HX6 HTk HTl HL2 HLn HPOS HN c8 f0 R p5 HB2
        go_wp2
        refine bodyPost_ret (v := .tuple #[shn 0 0, .int .i64 r1]) (by simp [results, Tryz.results21, go_sem, unhide r0, unhide r1']) rfl ⟨by rw [unhide HCR]; rfl, unhide HN5, unhide HF5⟩
    · have hn' : ((ks.length : Int) != (tk.length : Int)) = true := by simp; omega
      rw [if_pos hn] at HCR
      have Y1 := unhide HY
      have p5 : But (w.heap.size + 1) w1 (put2 w1 (w.heap.size + 1) (.int .i64 0) (.int .i64 0)) := But.set.trans But.set
      have R := Y1.put (.int .i64 0) (.int .i64 0)
      have r0 := hide R.at0
      have r1' := hide R.at1
      have HN5 := hide ((unhide HN1).but p5 (by omega))
      have HF5 := hide ((But.of (p := bn) (unhide HB)).on (p5.below (by omega) (unhide HB).size))
      have x0 := Y1.at0
      have x1 := Y1.at1
      have t0 := Y1.th0
      have t1 := Y1.th1
      have lx := Y1.low
      clear hn CK HY HX6 HTk HTl HL2 HLn HPOS R p5 HB Y1
      go_wp2
      refine bodyPost_ret (v := .tuple #[shn 0 0, .int .i64 5]) (by simp [results, Tryz.results21, go_sem, unhide r0, unhide r1']) rfl ⟨by rw [unhide HCR]; rfl, unhide HN5, unhide HF5⟩
end Go.Proofs.YtdgojpjmhalilaaGreatDoor
