/- Walks: matching.equalLists, out of what matching.equal tells of each pair. -/
import Derived.Test.YtdkgapapdjefdaaGreatDoorG21
namespace Go.Proofs.YtdkgapapdjefdaaGreatDoor
open Go.RowKit

/-- all but one block is as it was -/
structure But (p : Nat) (w w' : World) : Prop where
  os : w'.os = w.os
  tape : w'.tape = w.tape
  output : w'.output = w.output
  size : w.heap.size ≤ w'.heap.size
  block : ∀ k, k < w.heap.size → k ≠ p → w'.heap[k]? = w.heap[k]?
theorem But.refl (p : Nat) (w : World) : But p w w := ⟨rfl, rfl, rfl, Nat.le_refl _, fun _ _ _ => rfl⟩
theorem But.trans {p : Nat} {a b c : World} (h : But p a b) (k : But p b c) : But p a c :=
  ⟨k.os.trans h.os, k.tape.trans h.tape, k.output.trans h.output, Nat.le_trans h.size k.size, fun i hi hp => (k.block i (Nat.lt_of_lt_of_le hi h.size) hp).trans (h.block i hi hp)⟩
theorem But.of {p : Nat} {w w' : World} (h : Below w.heap.size w w') : But p w w' := ⟨h.os, h.tape, h.output, h.size, fun k hk _ => h.block k hk⟩
theorem But.on {p : Nat} {a b c : World} (h : But p a b) (k : Below a.heap.size b c) : But p a c :=
  ⟨k.os.trans h.os, k.tape.trans h.tape, k.output.trans h.output, Nat.le_trans h.size k.size, fun i hi hp => (k.block i hi).trans (h.block i hi hp)⟩
theorem But.set {p j : Nat} {w : World} {v : Value} : But p w (w.setCell ⟨p, j, none⟩ v) :=
  ⟨rfl, rfl, rfl, by simp [World.setCell], fun k _ hk => Below.heap_setCell w ⟨p, j, none⟩ v k hk⟩
theorem But.put {p : Nat} {w : World} {v0 v1 v2 v3 v4 v5 : Value} : But p w (put6 w p v0 v1 v2 v3 v4 v5) := ((((But.set.trans But.set).trans But.set).trans But.set).trans But.set).trans But.set
theorem But.below {p B : Nat} {w w' : World} (h : But p w w') (hp : B ≤ p) (hw : B ≤ w.heap.size) : Below B w w' :=
  ⟨h.os, h.tape, h.output, h.size, fun k hk => h.block k (by omega) (by omega)⟩
theorem But.cell {p : Nat} {w w' : World} (h : But p w w') {q : Addr} (hq : q.block < w.heap.size) (hp : q.block ≠ p) : w'.cell? q = w.cell? q := World.cell?_of_block (w := w) (h.block q.block hq hp)
theorem But.frozen {p : Nat} {w w' : World} (h : But p w w') {q : Addr} (hq : q.block < w.heap.size) (hp : q.block ≠ p) : w'.frozen? q = w.frozen? q := World.frozen?_of_block (w := w) (h.block q.block hq hp)
theorem St.but {n : Nat} {w w' : World} {p s : Nat} (h : St w p s) (hb : But n w w') (ne : p ≠ n) : St w' p s :=
  ⟨(hb.cell (q := ⟨p, 0, none⟩) h.2.2 ne).trans h.1, (hb.frozen (q := ⟨p, 0, none⟩) h.2.2 ne).trans h.2.1, Nat.lt_of_lt_of_le h.2.2 hb.size⟩
theorem Box.but {p : Nat} {w w' : World} {b : Nat} {v : Array Value} (h : Box w b v) (hb : But p w w') (ne : b ≠ p) : Box w' b v := by
  have c : ∀ o, w'.cell? ⟨b, o, none⟩ = w.cell? ⟨b, o, none⟩ := fun o => hb.cell (q := ⟨b, o, none⟩) h.low ne
  exact ⟨Nat.lt_of_lt_of_le h.low hb.size, by rw [c]; exact h.at0, by rw [c]; exact h.at1, by rw [c]; exact h.at2, by rw [c]; exact h.at3, by rw [c]; exact h.at4, by rw [c]; exact h.at5, fun o => by rw [hb.frozen (q := ⟨b, o, none⟩) h.low ne]; exact h.free o⟩

/-- what matching.equal tells of two trees -/
def EqC (T : Tree) : Prop := ∀ (U : Tree) (B : Nat) (w : World) (v u : Array Value) (p s d : Nat), Mem B w T v → Mem B w U u → B ≤ p → St w p s → s ≤ 2000 → 1 ≤ d → d ≤ 21 →
  Calls Tryz.prog 88 #[.pointer (some ⟨p, 0, none⟩), .agg v, .agg u, .int .i64 (d : Int)] w fun e w' => e = .returned (told (eqF T U s d).1) ∧ St w' p (eqF T U s d).2 ∧ But p w w'

theorem eqL_nil (ks : List Tree) (a s d : Nat) : eqL [] ks a s d = (a, s) := by rw [eqL]
theorem eqL_stop {u v : Tree} {us vs : List Tree} {a s d : Nat} (h : min a (eqF u v s d).1 = 0 ∨ 2000 < (eqF u v s d).2) : eqL (u :: us) (v :: vs) a s d = (min a (eqF u v s d).1, (eqF u v s d).2) := by rw [eqL, if_pos h]
theorem eqL_go {u v : Tree} {us vs : List Tree} {a s d : Nat} (h : ¬ (min a (eqF u v s d).1 = 0 ∨ 2000 < (eqF u v s d).2)) : eqL (u :: us) (v :: vs) a s d = eqL us vs (min a (eqF u v s d).1) (eqF u v s d).2 d := by rw [eqL, if_neg h]

set_option maxHeartbeats 1000000 in
theorem eqLists_no (n n' : Nat) (a a' : Option Addr) (cap cap' : Nat) (w : World) (p : Nat) (d : Int) (hl : ¬ n = n') :
    Calls Tryz.prog 122 #[.pointer (some ⟨p, 0, none⟩), .slice a n cap, .slice a' n' cap', .int .i64 d] w fun e w' => e = .returned (told 0) ∧ Below w.heap.size w w' := by
  have h5' : ((n : Int) != (n' : Int)) = true := by simp; omega
  go_enter Tryz.func122, Tryz.ntmps122
  go_wp2_with fail
  refine (truth_any _ _).mono ?_
  rintro e w9 ⟨rfl, hb⟩
  have R := Box.new.keep hb (by simp)
  have hw := (vbelow_new w _).trans (hb.mono (by simp))
  clear hb
  obtain ⟨a0, a1, a2, a3, a4, a5⟩ := R.tell
  obtain ⟨f0, f1, f2, f3, f4, f5⟩ := R.thaw
  have lb := R.low
  go_wp2
  exact bodyPost_ret (v := told 0) (by simp [results, Tryz.results122, go_sem, a0, a1, a2, a3, a4, a5, kd, yd]) rfl ⟨rfl, below_put6 hw (Nat.le_refl _)⟩

set_option maxHeartbeats 4000000 in
theorem eqLists_yes (ks ks' : List Tree) (IH : ∀ u ∈ ks, EqC u) (B : Nat) (w : World) (b b' off off' cap cap' p s d : Nat) (hl : ks.length = ks'.length) (hn : ks.length ≤ 9223372036854775807) (hm : MemL B w ks b off) (hm' : MemL B w ks' b' off') (hb1 : b < B) (hb2 : b' < B) (hp : B ≤ p) (hS : St w p s) (hs : s ≤ 2000) (hd1 : 1 ≤ d) (hd : d ≤ 21) :
    Calls Tryz.prog 122 #[.pointer (some ⟨p, 0, none⟩), .slice (some ⟨b, off, none⟩) ks.length cap, .slice (some ⟨b', off', none⟩) ks'.length cap', .int .i64 (d : Int)] w fun e w' => e = .returned (told (eqL ks ks' 2 s d).1) ∧ St w' p (eqL ks ks' 2 s d).2 ∧ But p w w' := by
  have HL := hide hl
  rw [← hl]
  clear hl
  have IH' := hide IH
  have M1 := hide hm
  have M2 := hide hm'
  have S0 := hide hS
  have hBw : B ≤ w.heap.size := Nat.le_of_lt (Nat.lt_of_le_of_lt hp hS.2.2)
  have hpw := hS.2.2
  clear IH hm hm' hS
  go_enter Tryz.func122, Tryz.ntmps122
  go_wp2_with fail
  refine (truth_any _ _).mono ?_
  rintro e w9 ⟨rfl, hb⟩
  have R := Box.new.keep hb (by simp)
  have hw := (vbelow_new w _).trans (hb.mono (by simp))
  clear hb
  obtain ⟨a0, a1, a2, a3, a4, a5⟩ := R.tell
  obtain ⟨f0, f1, f2, f3, f4, f5⟩ := R.thaw
  have lb := R.low
  have R0 := hide R
  have XA := hide (Box.new (w := w9) (t := 27) (a0 := .int .i64 (kd 2)) (a1 := .bool (yd 2)) (a2 := .int .i64 0) (a3 := .int .i64 0) (a4 := .string ⟨#[]⟩) (a5 := .slice none 0 0))
  have hw9 := hw.size
  have HW := hide (But.of (p := p) (hw.alloc hw9 (.cells #[.int .i64 (kd 2), .bool (yd 2), .int .i64 0, .int .i64 0, .string ⟨#[]⟩, .slice none 0 0] 27)))
  have R1 := hide (R.over (o := .cells #[.int .i64 (kd 2), .bool (yd 2), .int .i64 0, .int .i64 0, .string ⟨#[]⟩, .slice none 0 0] 27))
  have S1 := hide ((unhide S0).below (hw.alloc hw9 (.cells #[.int .i64 (kd 2), .bool (yd 2), .int .i64 0, .int .i64 0, .string ⟨#[]⟩, .slice none 0 0] 27)) hpw)
  clear hw a0 a1 a2 a3 a4 a5 f0 f1 f2 f3 f4 f5 R R0 S0
  go_wp2
  go_loopw [20] (fun i wr => ∃ m ti si : Nat, m ≤ ks.length ∧ i = .int .i64 (m : Int) ∧ Hid (eqL ks ks' 2 s d = eqL (ks.drop m) (ks'.drop m) ti si d) ∧ ti ≤ 2 ∧ si ≤ 2000 ∧ Hid (St wr p si) ∧ Hid (Box wr w.heap.size #[.int .i64 0, .bool false, .int .i64 0, .int .i64 0, .string ⟨#[]⟩, .slice none 0 0]) ∧ Hid (Box wr w9.heap.size #[.int .i64 (kd ti), .bool (yd ti), .int .i64 0, .int .i64 0, .string ⟨#[]⟩, .slice none 0 0]) ∧ Hid (But p w wr)) (fun i _ => ks.length - (intOf i).toNat)
  case atStart => exact ⟨0, 2, s, Nat.zero_le _, rfl, hide rfl, Nat.le_refl _, hs, S1, R1, XA, HW⟩
  case round =>
    obtain ⟨m, ti, si, hml, rfl, H, hti, hsi, HS, HR, HX, HB⟩ := hrel
    clear S1 R1 XA HW
    by_cases hlt2 : m < ks.length
    · have hi1 : (m : Int) < (ks.length : Int) := by omega
      obtain ⟨u, hu⟩ : ∃ u, ks[m]? = some u := ⟨_, List.getElem?_eq_getElem hlt2⟩
      obtain ⟨u', hu'⟩ : ∃ u, ks'[m]? = some u := ⟨_, List.getElem?_eq_getElem (by have := unhide HL; omega)⟩
      have HU := hide (unhide IH' u (List.mem_of_getElem? hu))
      have hwB := (unhide HB).below hp hBw
      obtain ⟨cs, h6, hmu⟩ := MemL.at (MemL.below hwB hb1 (unhide M1)) m u hu
      obtain ⟨cs', h6', hmu'⟩ := MemL.at (MemL.below hwB hb2 (unhide M2)) m u' hu'
      clear hwB
      have HM := hide hmu
      have HM' := hide hmu'
      rw [drop_at hlt2 hu, drop_at (by have := unhide HL; omega) hu'] at H
      cases u with
      | mk k y c x t kk =>
      cases u' with
      | mk k' y' c' x' t' kk' =>
        rw [Mem] at hmu hmu'
        obtain ⟨_, _, a1, cap1, rfl, _⟩ := hmu
        obtain ⟨_, _, a2, cap2, rfl, _⟩ := hmu'
        obtain ⟨u0, u1, u2, u3, u4, u5, hu6, c0, c1, c2, c3, c4, c5⟩ := h6
        simp only [Array.mk.injEq, List.cons.injEq, and_true] at hu6
        obtain ⟨rfl, rfl, rfl, rfl, rfl, rfl⟩ := hu6
        obtain ⟨u0, u1, u2, u3, u4, u5, hu6, e0, e1, e2, e3, e4, e5⟩ := h6'
        simp only [Array.mk.injEq, List.cons.injEq, and_true] at hu6
        obtain ⟨rfl, rfl, rfl, rfl, rfl, rfl⟩ := hu6
        have hBr := Nat.le_trans hBw (unhide HB).size
        have hpr : p < wr.heap.size := (unhide HS).2.2
        have C := hide (fun wx (hx : Below wr.heap.size wr wx) => unhide HU (.mk k' y' c' x' t' kk') B wx _ _ p si d (Mem.below (hx.mono hBr) (unhide HM)) (Mem.below (hx.mono hBr) (unhide HM')) hp ((unhide HS).below hx hpr) hsi hd1 hd)
        have hle := hide (eq_le (.mk k y c x t kk) (.mk k' y' c' x' t' kk') si d)
        have AN := hide (fun g (hg : g ≤ 2) wx => and_told ti g hti hg wx)
        obtain ⟨v0, v1, v2, v3, v4, v5⟩ := (unhide HX).tell
        have K2 := hide (fun wx w2 (hx : Below wr.heap.size wr wx) (h2 : But p wx w2) => ((unhide HX).keep hx (unhide HX).low).but h2 (by omega))
        clear hu hu' HU HM HM'
        go_wp2_with fail
        go_region_with (first
          | (go_at_call_of 88 (Value.pointer (some ⟨p, 0, none⟩)); refine (unhide C _ ((Below.refl _ _).drew)).mono ?_; rintro e w2 ⟨rfl, hS2, hb2⟩; have X2 := unhide K2 _ _ ((Below.refl _ _).drew) hb2; obtain ⟨z0, z1, z2, z3, z4, z5⟩ := X2.tell)
          | (refine (unhide AN _ (unhide hle) _).mono ?_; rintro e w3 ⟨rfl, hb3⟩; have X3 := X2.keep hb3 X2.low; obtain ⟨q0, q1, q2, q3, q4, q5⟩ := X3.tell; obtain ⟨g0, g1, g2, g3, g4, g5⟩ := X3.thaw))
        all_goals
          have hb2w : But p wr w2 := (But.of ((Below.refl _ _).drew)).trans hb2
          have R3 := ((unhide HR).but hb2w (by omega)).keep hb3 (Nat.lt_of_lt_of_le (unhide HR).low hb2w.size)
          have S3 := hS2.below hb3 hS2.2.2
          have B3 := ((unhide HB).trans hb2w).on (hb3.mono (Nat.le_trans (unhide HB).size hb2w.size))
          have hle' := unhide hle
          have STP := hide (fun h => eqL_stop (u := .mk k y c x t kk) (v := .mk k' y' c' x' t' kk') (us := ks.drop (m + 1)) (vs := ks'.drop (m + 1)) (a := ti) (s := si) (d := d) h)
          have GO := hide (fun h => eqL_go (u := .mk k y c x t kk) (v := .mk k' y' c' x' t' kk') (us := ks.drop (m + 1)) (vs := ks'.drop (m + 1)) (a := ti) (s := si) (d := d) h)
          clear hS2 hb2 X2 z0 z1 z2 z3 z4 z5 v0 v1 v2 v3 v4 v5 hb3 hb2w c0 c1 c2 c3 c4 c5 e0 e1 e2 e3 e4 e5 K2 C AN HR HS HX HB hle
          generalize eqF (.mk k y c x t kk) (.mk k' y' c' x' t' kk') si d = E at *
          obtain ⟨g, n⟩ := E
          simp only at STP GO hle' S3
          obtain ⟨h, hh⟩ : ∃ h, h = min ti g := ⟨_, rfl⟩
          have hh2 : h ≤ 2 := by omega
          rw [← hh] at STP GO
          simp only [← hh]
          have X4 := hide (X3.put (.int .i64 (kd h)) (.bool (yd h)) (.int .i64 0) (.int .i64 0) (.string ⟨#[]⟩) (.slice none 0 0))
          have R4 := hide (R3.but (But.put (p := w9.heap.size) (v0 := .int .i64 (kd h)) (v1 := .bool (yd h)) (v2 := .int .i64 0) (v3 := .int .i64 0) (v4 := .string ⟨#[]⟩) (v5 := .slice none 0 0)) (by omega))
          have S4 := hide (S3.but (But.put (p := w9.heap.size) (v0 := .int .i64 (kd h)) (v1 := .bool (yd h)) (v2 := .int .i64 0) (v3 := .int .i64 0) (v4 := .string ⟨#[]⟩) (v5 := .slice none 0 0)) (by omega))
          have B4 := hide (B3.on (below_put6 (v0 := .int .i64 (kd h)) (v1 := .bool (yd h)) (v2 := .int .i64 0) (v3 := .int .i64 0) (v4 := .string ⟨#[]⟩) (v5 := .slice none 0 0) (Below.refl w.heap.size w3) hw9))
          clear X3 R3 S3 B3 hh
          by_cases hz : h = 0
          · have E := hide ((unhide H).trans (unhide STP (.inl hz)))
            have IFc := hide (fun wx => isFalse_is (kd h) (yd h) 0 0 (.string ⟨#[]⟩) (.slice none 0 0) wx true (by rw [tv_told hh2]; simp [hz]))
            clear H STP GO hz
            go_wp2_with fail
            refine (unhide IFc _).mono ?_
            rintro e w5 ⟨rfl, hb5⟩
            have R5 := (unhide R4).keep hb5 (unhide R4).low
            have S5 := hide ((unhide S4).below hb5 (unhide S4).2.2)
            have B5 := hide ((unhide B4).on (hb5.mono (unhide B4).size))
            obtain ⟨y0, y1, y2, y3, y4, y5⟩ := ((unhide X4).keep hb5 (unhide X4).low).tell
            obtain ⟨r0, r1, r2, r3, r4, r5⟩ := R5.tell
            obtain ⟨o0, o1, o2, o3, o4, o5⟩ := R5.thaw
            have lb5 := R5.low
            clear hb5 R4 S4 B4 X4 IFc q0 q1 q2 q3 q4 q5 g0 g1 g2 g3 g4 g5 R5
            go_wp2
            refine bodyPost_ret (v := told h) (by simp [results, Tryz.results122, go_sem, r0, r1, r2, r3, r4, r5]) rfl ?_
            rw [unhide E]
            exact ⟨rfl, (unhide S5).but But.put (by omega), (unhide B5).on (below_put6 (Below.refl _ _) (Nat.le_refl _))⟩
          · have IFc := hide (fun wx => isFalse_is (kd h) (yd h) 0 0 (.string ⟨#[]⟩) (.slice none 0 0) wx false (by rw [tv_told hh2]; simp [hz]))
            have HZ := hide hz
            clear hz
            go_wp2_with fail
            refine (unhide IFc _).mono ?_
            rintro e w5 ⟨rfl, hb5⟩
            have R5 := (unhide R4).keep hb5 (unhide R4).low
            have S5 := (unhide S4).below hb5 (unhide S4).2.2
            have B5 := hide ((unhide B4).on (hb5.mono (unhide B4).size))
            have X5 := (unhide X4).keep hb5 (unhide X4).low
            have hR5 := hide R5
            have hS5 := hide S5
            have hX5 := hide X5
            obtain ⟨y0, y1, y2, y3, y4, y5⟩ := X5.tell
            obtain ⟨r0, r1, r2, r3, r4, r5⟩ := R5.tell
            obtain ⟨o0, o1, o2, o3, o4, o5⟩ := R5.thaw
            obtain ⟨s0, s1, s2⟩ := S5
            have lb5 := R5.low
            clear hb5 R4 S4 B4 X4 IFc q0 q1 q2 q3 q4 q5 g0 g1 g2 g3 g4 g5 R5 X5
            by_cases hN : (2000 : Int) < (n : Int)
            · have E := hide ((unhide H).trans (unhide STP (.inr (by omega))))
              clear H STP GO
              go_wp2
              refine bodyPost_ret (v := told h) (by simp [results, Tryz.results122, go_sem, r0, r1, r2, r3, r4, r5]) rfl ?_
              rw [unhide E]
              exact ⟨rfl, (unhide hS5).but But.put (by omega), (unhide B5).on (below_put6 (Below.refl _ _) (Nat.le_refl _))⟩
            · have E := hide ((unhide H).trans (unhide GO (fun q => q.elim (fun q => unhide HZ q) (fun q => by omega))))
              clear H STP GO
              go_wp2
              go_round
              case rel => exact ⟨m + 1, h, n, by omega, by go_num, E, hh2, by omega, hS5, hR5, hX5, B5⟩
              case measure => simp [intOf]; omega
    · obtain rfl : m = ks.length := by omega
      have E : eqL ks ks' 2 s d = (ti, si) := by
        have h := unhide H
        rw [List.drop_length, eqL_nil] at h
        exact h
      replace E := hide E
      have R5 := unhide HR
      obtain ⟨y0, y1, y2, y3, y4, y5⟩ := (unhide HX).tell
      obtain ⟨r0, r1, r2, r3, r4, r5⟩ := R5.tell
      obtain ⟨o0, o1, o2, o3, o4, o5⟩ := R5.thaw
      have lb5 := R5.low
      clear R5
      go_wp2
      refine bodyPost_ret (v := told ti) (by simp [results, Tryz.results122, go_sem, r0, r1, r2, r3, r4, r5]) rfl ?_
      rw [unhide E]
      exact ⟨rfl, (unhide HS).but But.put (by omega), (unhide HB).on (below_put6 (Below.refl _ _) (Nat.le_refl _))⟩
end Go.Proofs.YtdkgapapdjefdaaGreatDoor

/- Walks: matching.equal of two trees. -/
namespace Go.Proofs.YtdkgapapdjefdaaGreatDoor
open Go.RowKit

theorem ef_much {k k' : Int} {y y' : Bool} {c x c' x' : Int} {t t' : ByteArray} {ks ks' : List Tree} {s d : Nat} (h : 2000 < s + 1 ∨ 20 < d) : eqF (.mk k y c x t ks) (.mk k' y' c' x' t' ks') s d = (1, s + 1) := by rw [eqF, if_pos h]
theorem ef_nil {k k' : Int} {y y' : Bool} {c x c' x' : Int} {t t' : ByteArray} {ks ks' : List Tree} {s d : Nat} (h : ¬ (2000 < s + 1 ∨ 20 < d)) (hk : k = 1 ∨ k' = 1) : eqF (.mk k y c x t ks) (.mk k' y' c' x' t' ks') s d = (if k = k' then 2 else 0, s + 1) := by rw [eqF, if_neg h, if_pos hk]
theorem ef_kind {k k' : Int} {y y' : Bool} {c x c' x' : Int} {t t' : ByteArray} {ks ks' : List Tree} {s d : Nat} (h : ¬ (2000 < s + 1 ∨ 20 < d)) (hk : ¬ (k = 1 ∨ k' = 1)) (hn : ¬ k = k') : eqF (.mk k y c x t ks) (.mk k' y' c' x' t' ks') s d = (1, s + 1) := by rw [eqF, if_neg h, if_neg hk, if_neg hn]
theorem ef_bool {y y' : Bool} {c x c' x' : Int} {t t' : ByteArray} {ks ks' : List Tree} {s d : Nat} (h : ¬ (2000 < s + 1 ∨ 20 < d)) : eqF (.mk 2 y c x t ks) (.mk 2 y' c' x' t' ks') s d = (if y = y' then 2 else 0, s + 1) := by rw [eqF, if_neg h, if_neg (by omega), if_pos rfl, if_pos rfl]
theorem ef_num {y y' : Bool} {c x c' x' : Int} {t t' : ByteArray} {ks ks' : List Tree} {s d : Nat} (h : ¬ (2000 < s + 1 ∨ 20 < d)) : eqF (.mk 3 y c x t ks) (.mk 3 y' c' x' t' ks') s d = (if c = c' ∧ x = x' then 2 else 0, s + 1) := by rw [eqF, if_neg h, if_neg (by omega), if_pos rfl, if_neg (by omega), if_pos rfl]
theorem ef_text {y y' : Bool} {c x c' x' : Int} {t t' : ByteArray} {ks ks' : List Tree} {s d : Nat} (h : ¬ (2000 < s + 1 ∨ 20 < d)) : eqF (.mk 4 y c x t ks) (.mk 4 y' c' x' t' ks') s d = (if t.toList = t'.toList then 2 else 0, s + 1) := by rw [eqF, if_neg h, if_neg (by omega), if_pos rfl, if_neg (by omega), if_neg (by omega), if_pos rfl]
theorem ef_list {y y' : Bool} {c x c' x' : Int} {t t' : ByteArray} {ks ks' : List Tree} {s d : Nat} (h : ¬ (2000 < s + 1 ∨ 20 < d)) : eqF (.mk 5 y c x t ks) (.mk 5 y' c' x' t' ks') s d = if ks.length = ks'.length then eqL ks ks' 2 (s + 1) (d + 1) else (0, s + 1) := by rw [eqF, if_neg h, if_neg (by omega), if_pos rfl, if_neg (by omega), if_neg (by omega), if_neg (by omega), if_pos rfl]
theorem ef_else {k : Int} {y y' : Bool} {c x c' x' : Int} {t t' : ByteArray} {ks ks' : List Tree} {s d : Nat} (h : ¬ (2000 < s + 1 ∨ 20 < d)) (h1 : ¬ k = 1) (h2 : ¬ k = 2) (h3 : ¬ k = 3) (h4 : ¬ k = 4) (h5 : ¬ k = 5) : eqF (.mk k y c x t ks) (.mk k y' c' x' t' ks') s d = (1, s + 1) := by
  rw [eqF, if_neg h, if_neg (by omega), if_pos rfl, if_neg h2, if_neg h3, if_neg h4, if_neg h5]
theorem eq_fin {p s : Nat} {w : World} (hS : St w p s) (w9 : World) (rb : Nat) (v0 v1 v2 v3 v4 v5 : Value) (hw : Below w.heap.size (w.setCell ⟨p, 0, none⟩ (.int .i64 ((s : Int) + 1))) w9) (lr : w.heap.size ≤ rb) :
    St (put6 w9 rb v0 v1 v2 v3 v4 v5) p (s + 1) ∧ But p w (put6 w9 rb v0 v1 v2 v3 v4 v5) := by
  have hp := hS.2.2
  have S1 : St (w.setCell ⟨p, 0, none⟩ (.int .i64 ((s : Int) + 1))) p (s + 1) := by
    obtain ⟨h1, h2, h3⟩ := hS
    refine ⟨?_, ?_, by simpa [World.setCell] using h3⟩
    · simp [go_sem, h1]
    · simp [go_sem, h2]
  exact ⟨(S1.below hw hp).but But.put (by omega), (But.set.on hw).on (below_put6 (Below.refl _ _) lr)⟩

set_option maxHeartbeats 4000000 in
theorem eq_plain (k : Int) (y : Bool) (c x : Int) (t : ByteArray) (k' : Int) (y' : Bool) (c' x' : Int) (t' : ByteArray) (ks ks' : List Tree) (a a' : Option Addr) (cap cap' : Nat) (w : World) (p s d : Nat) (hS : St w p s) (hs : s ≤ 2000) (hd : d ≤ 21) (h5 : 2000 < s + 1 ∨ 20 < d ∨ ¬ (k = 5 ∧ k' = 5)) :
    Calls Tryz.prog 88 #[.pointer (some ⟨p, 0, none⟩), .agg #[.int .i64 k, .bool y, .int .i64 c, .int .i64 x, .string t, .slice a ks.length cap], .agg #[.int .i64 k', .bool y', .int .i64 c', .int .i64 x', .string t', .slice a' ks'.length cap'], .int .i64 (d : Int)] w fun e w' => e = .returned (told (eqF (.mk k y c x t ks) (.mk k' y' c' x' t' ks') s d).1) ∧ St w' p (eqF (.mk k y c x t ks) (.mk k' y' c' x' t' ks') s d).2 ∧ But p w w' := by
  have FIN := hide (fun w9 rb v0 v1 v2 v3 v4 v5 hw lr => eq_fin hS w9 rb v0 v1 v2 v3 v4 v5 hw lr)
  have hz : (w.setCell ⟨p, 0, none⟩ (.int .i64 ((s : Int) + 1))).heap.size = w.heap.size := by simp [World.setCell]
  obtain ⟨s1, s2, s3⟩ := hS
  have q1 : p < w.heap.size + 1 := by omega
  have q2 : p < w.heap.size + 1 + 1 := by omega
  by_cases h1 : 2000 < s + 1 ∨ 20 < d
  · rw [ef_much h1]
    clear h5
    by_cases h2 : 2000 < s + 1
    · have h2' : (2000 : Int) < (s : Int) + 1 := by omega
      clear h1
      go_enter Tryz.func88, Tryz.ntmps88
      go_wp2_with fail
      refine (null_any _).mono ?_
      rintro e w9 ⟨rfl, hb⟩
      obtain ⟨_, _, R, hw⟩ := box3 hb
      rw [hz] at R hw
      clear hb
      obtain ⟨a0, a1, a2, a3, a4, a5⟩ := R.tell
      obtain ⟨f0, f1, f2, f3, f4, f5⟩ := R.thaw
      have lb := R.low
      go_wp2
      exact bodyPost_ret (v := told 1) (by simp [results, Tryz.results88, go_sem, a0, a1, a2, a3, a4, a5, kd, yd]) rfl ⟨rfl, unhide FIN _ _ _ _ _ _ _ _ hw (by omega)⟩
    · have h2' : ¬ (2000 : Int) < (s : Int) + 1 := by omega
      have h3' : (20 : Int) < (d : Int) := by omega
      clear h1
      go_enter Tryz.func88, Tryz.ntmps88
      go_wp2_with fail
      refine (null_any _).mono ?_
      rintro e w9 ⟨rfl, hb⟩
      obtain ⟨_, _, R, hw⟩ := box3 hb
      rw [hz] at R hw
      clear hb
      obtain ⟨a0, a1, a2, a3, a4, a5⟩ := R.tell
      obtain ⟨f0, f1, f2, f3, f4, f5⟩ := R.thaw
      have lb := R.low
      go_wp2
      exact bodyPost_ret (v := told 1) (by simp [results, Tryz.results88, go_sem, a0, a1, a2, a3, a4, a5, kd, yd]) rfl ⟨rfl, unhide FIN _ _ _ _ _ _ _ _ hw (by omega)⟩
  · have h2' : ¬ (2000 : Int) < (s : Int) + 1 := by omega
    have h3' : ¬ (20 : Int) < (d : Int) := by omega
    have H1 := hide h1
    have n5 : ¬ (k = 5 ∧ k' = 5) := by omega
    clear h1 h5
    by_cases k1 : k = 1 ∨ k' = 1
    · rw [ef_nil (unhide H1) k1]
      clear n5
      by_cases e : k = k'
      · subst e
        obtain rfl : k = 1 := by omega
        rw [if_pos rfl]
        clear k1
        go_enter Tryz.func88, Tryz.ntmps88
        go_wp2_with fail
        refine (truth_any _ _).mono ?_
        rintro e w9 ⟨rfl, hb⟩
        obtain ⟨_, _, R, hw⟩ := box3 hb
        rw [hz] at R hw
        clear hb
        obtain ⟨a0, a1, a2, a3, a4, a5⟩ := R.tell
        obtain ⟨f0, f1, f2, f3, f4, f5⟩ := R.thaw
        have lb := R.low
        go_wp2
        exact bodyPost_ret (v := told 2) (by simp [results, Tryz.results88, go_sem, a0, a1, a2, a3, a4, a5, kd, yd]) rfl ⟨rfl, unhide FIN _ _ _ _ _ _ _ _ hw (by omega)⟩
      · rw [if_neg e]
        have e' : (k == k') = false := by simp [e]
        by_cases k11 : k = 1
        · subst k11
          clear k1
          go_enter Tryz.func88, Tryz.ntmps88
          go_wp2_with fail
          refine (truth_any _ _).mono ?_
          rintro e w9 ⟨rfl, hb⟩
          obtain ⟨_, _, R, hw⟩ := box3 hb
          rw [hz] at R hw
          clear hb
          obtain ⟨a0, a1, a2, a3, a4, a5⟩ := R.tell
          obtain ⟨f0, f1, f2, f3, f4, f5⟩ := R.thaw
          have lb := R.low
          go_wp2
          exact bodyPost_ret (v := told 0) (by simp [results, Tryz.results88, go_sem, a0, a1, a2, a3, a4, a5, kd, yd]) rfl ⟨rfl, unhide FIN _ _ _ _ _ _ _ _ hw (by omega)⟩
        · obtain rfl : k' = 1 := by omega
          clear k1
          go_enter Tryz.func88, Tryz.ntmps88
          go_wp2_with fail
          refine (truth_any _ _).mono ?_
          rintro e w9 ⟨rfl, hb⟩
          obtain ⟨_, _, R, hw⟩ := box3 hb
          rw [hz] at R hw
          clear hb
          obtain ⟨a0, a1, a2, a3, a4, a5⟩ := R.tell
          obtain ⟨f0, f1, f2, f3, f4, f5⟩ := R.thaw
          have lb := R.low
          go_wp2
          exact bodyPost_ret (v := told 0) (by simp [results, Tryz.results88, go_sem, a0, a1, a2, a3, a4, a5, kd, yd]) rfl ⟨rfl, unhide FIN _ _ _ _ _ _ _ _ hw (by omega)⟩
    · have m1 : ¬ k = 1 := by omega
      have m2 : ¬ k' = 1 := by omega
      by_cases e : k = k'
      · subst e
        have m5 : ¬ k = 5 := by omega
        clear n5 k1 m2
        by_cases k2 : k = 2
        · subst k2
          rw [ef_bool (unhide H1)]
          by_cases ey : y = y'
          · subst ey
            rw [if_pos rfl]
            go_enter Tryz.func88, Tryz.ntmps88
            go_wp2_with fail
            refine (truth_any _ _).mono ?_
            rintro e w9 ⟨rfl, hb⟩
            obtain ⟨_, _, R, hw⟩ := box3 hb
            rw [hz] at R hw
            clear hb
            obtain ⟨a0, a1, a2, a3, a4, a5⟩ := R.tell
            obtain ⟨f0, f1, f2, f3, f4, f5⟩ := R.thaw
            have lb := R.low
            go_wp2
            exact bodyPost_ret (v := told 2) (by simp [results, Tryz.results88, go_sem, a0, a1, a2, a3, a4, a5, kd, yd]) rfl ⟨rfl, unhide FIN _ _ _ _ _ _ _ _ hw (by omega)⟩
          · rw [if_neg ey]
            have ey' : (y == y') = false := by simp [ey]
            go_enter Tryz.func88, Tryz.ntmps88
            go_wp2_with fail
            refine (truth_any _ _).mono ?_
            rintro e w9 ⟨rfl, hb⟩
            obtain ⟨_, _, R, hw⟩ := box3 hb
            rw [hz] at R hw
            clear hb
            obtain ⟨a0, a1, a2, a3, a4, a5⟩ := R.tell
            obtain ⟨f0, f1, f2, f3, f4, f5⟩ := R.thaw
            have lb := R.low
            go_wp2
            exact bodyPost_ret (v := told 0) (by simp [results, Tryz.results88, go_sem, a0, a1, a2, a3, a4, a5, kd, yd]) rfl ⟨rfl, unhide FIN _ _ _ _ _ _ _ _ hw (by omega)⟩
        by_cases k3 : k = 3
        · subst k3
          rw [ef_num (unhide H1)]
          by_cases ec : c = c'
          · subst ec
            by_cases ex : x = x'
            · subst ex
              rw [if_pos ⟨rfl, rfl⟩]
              go_enter Tryz.func88, Tryz.ntmps88
              go_wp2_with fail
              refine (truth_any _ _).mono ?_
              rintro e w9 ⟨rfl, hb⟩
              obtain ⟨_, _, R, hw⟩ := box3 hb
              rw [hz] at R hw
              clear hb
              obtain ⟨a0, a1, a2, a3, a4, a5⟩ := R.tell
              obtain ⟨f0, f1, f2, f3, f4, f5⟩ := R.thaw
              have lb := R.low
              go_wp2
              exact bodyPost_ret (v := told 2) (by simp [results, Tryz.results88, go_sem, a0, a1, a2, a3, a4, a5, kd, yd]) rfl ⟨rfl, unhide FIN _ _ _ _ _ _ _ _ hw (by omega)⟩
            · rw [if_neg (fun q => ex q.2)]
              go_enter Tryz.func88, Tryz.ntmps88
              go_wp2_with fail
              refine (truth_any _ _).mono ?_
              rintro e w9 ⟨rfl, hb⟩
              obtain ⟨_, _, R, hw⟩ := box3 hb
              rw [hz] at R hw
              clear hb
              obtain ⟨a0, a1, a2, a3, a4, a5⟩ := R.tell
              obtain ⟨f0, f1, f2, f3, f4, f5⟩ := R.thaw
              have lb := R.low
              go_wp2
              exact bodyPost_ret (v := told 0) (by simp [results, Tryz.results88, go_sem, a0, a1, a2, a3, a4, a5, kd, yd]) rfl ⟨rfl, unhide FIN _ _ _ _ _ _ _ _ hw (by omega)⟩
          · rw [if_neg (fun q => ec q.1)]
            go_enter Tryz.func88, Tryz.ntmps88
            go_wp2_with fail
            refine (truth_any _ _).mono ?_
            rintro e w9 ⟨rfl, hb⟩
            obtain ⟨_, _, R, hw⟩ := box3 hb
            rw [hz] at R hw
            clear hb
            obtain ⟨a0, a1, a2, a3, a4, a5⟩ := R.tell
            obtain ⟨f0, f1, f2, f3, f4, f5⟩ := R.thaw
            have lb := R.low
            go_wp2
            exact bodyPost_ret (v := told 0) (by simp [results, Tryz.results88, go_sem, a0, a1, a2, a3, a4, a5, kd, yd]) rfl ⟨rfl, unhide FIN _ _ _ _ _ _ _ _ hw (by omega)⟩
        by_cases k4 : k = 4
        · subst k4
          rw [ef_text (unhide H1)]
          by_cases et : t.toList = t'.toList
          · rw [if_pos et]
            have et' : (t.toList == t'.toList) = true := by simp [et]
            go_enter Tryz.func88, Tryz.ntmps88
            go_wp2_with fail
            refine (truth_any _ _).mono ?_
            rintro e w9 ⟨rfl, hb⟩
            obtain ⟨_, _, R, hw⟩ := box3 hb
            rw [hz] at R hw
            clear hb
            obtain ⟨a0, a1, a2, a3, a4, a5⟩ := R.tell
            obtain ⟨f0, f1, f2, f3, f4, f5⟩ := R.thaw
            have lb := R.low
            go_wp2
            exact bodyPost_ret (v := told 2) (by simp [results, Tryz.results88, go_sem, a0, a1, a2, a3, a4, a5, kd, yd]) rfl ⟨rfl, unhide FIN _ _ _ _ _ _ _ _ hw (by omega)⟩
          · rw [if_neg et]
            have et' : (t.toList == t'.toList) = false := by simp [et]
            go_enter Tryz.func88, Tryz.ntmps88
            go_wp2_with fail
            refine (truth_any _ _).mono ?_
            rintro e w9 ⟨rfl, hb⟩
            obtain ⟨_, _, R, hw⟩ := box3 hb
            rw [hz] at R hw
            clear hb
            obtain ⟨a0, a1, a2, a3, a4, a5⟩ := R.tell
            obtain ⟨f0, f1, f2, f3, f4, f5⟩ := R.thaw
            have lb := R.low
            go_wp2
            exact bodyPost_ret (v := told 0) (by simp [results, Tryz.results88, go_sem, a0, a1, a2, a3, a4, a5, kd, yd]) rfl ⟨rfl, unhide FIN _ _ _ _ _ _ _ _ hw (by omega)⟩
        rw [ef_else (unhide H1) m1 k2 k3 k4 m5]
        go_enter Tryz.func88, Tryz.ntmps88
        go_wp2_with fail
        refine (null_any _).mono ?_
        rintro e w9 ⟨rfl, hb⟩
        obtain ⟨_, _, R, hw⟩ := box3 hb
        rw [hz] at R hw
        clear hb
        obtain ⟨a0, a1, a2, a3, a4, a5⟩ := R.tell
        obtain ⟨f0, f1, f2, f3, f4, f5⟩ := R.thaw
        have lb := R.low
        go_wp2
        exact bodyPost_ret (v := told 1) (by simp [results, Tryz.results88, go_sem, a0, a1, a2, a3, a4, a5, kd, yd]) rfl ⟨rfl, unhide FIN _ _ _ _ _ _ _ _ hw (by omega)⟩
      · rw [ef_kind (unhide H1) k1 e]
        have e' : (k != k') = true := by simp [e]
        have m1' : (k == 1) = false := by simp [m1]
        have m2' : (k' == 1) = false := by simp [m2]
        clear n5 k1
        go_enter Tryz.func88, Tryz.ntmps88
        go_wp2_with fail
        refine (null_any _).mono ?_
        rintro e w9 ⟨rfl, hb⟩
        obtain ⟨_, _, R, hw⟩ := box3 hb
        rw [hz] at R hw
        clear hb
        obtain ⟨a0, a1, a2, a3, a4, a5⟩ := R.tell
        obtain ⟨f0, f1, f2, f3, f4, f5⟩ := R.thaw
        have lb := R.low
        go_wp2
        exact bodyPost_ret (v := told 1) (by simp [results, Tryz.results88, go_sem, a0, a1, a2, a3, a4, a5, kd, yd]) rfl ⟨rfl, unhide FIN _ _ _ _ _ _ _ _ hw (by omega)⟩
end Go.Proofs.YtdkgapapdjefdaaGreatDoor

/- Walks: matching.equalLists of two lists of nothing. -/
namespace Go.Proofs.YtdkgapapdjefdaaGreatDoor
open Go.RowKit

set_option maxHeartbeats 4000000 in
theorem eqLists_nil (a a' : Option Addr) (cap cap' : Nat) (w : World) (p : Nat) (d : Int) :
    Calls Tryz.prog 122 #[.pointer (some ⟨p, 0, none⟩), .slice a 0 cap, .slice a' 0 cap', .int .i64 d] w fun e w' => e = .returned (told 2) ∧ Below w.heap.size w w' := by
  go_enter Tryz.func122, Tryz.ntmps122
  go_wp2_with fail
  refine (truth_any _ _).mono ?_
  rintro e w9 ⟨rfl, hb⟩
  have R := Box.new.keep hb (by simp)
  have hw := (vbelow_new w _).trans (hb.mono (by simp))
  clear hb
  obtain ⟨a0, a1, a2, a3, a4, a5⟩ := R.tell
  obtain ⟨f0, f1, f2, f3, f4, f5⟩ := R.thaw
  have lb := R.low
  have XA := hide (Box.new (w := w9) (t := 27) (a0 := .int .i64 (kd 2)) (a1 := .bool (yd 2)) (a2 := .int .i64 0) (a3 := .int .i64 0) (a4 := .string ⟨#[]⟩) (a5 := .slice none 0 0))
  have hw9 := hw.size
  have HW := hide (hw.alloc hw9 (.cells #[.int .i64 (kd 2), .bool (yd 2), .int .i64 0, .int .i64 0, .string ⟨#[]⟩, .slice none 0 0] 27))
  have R1 := hide (R.over (o := .cells #[.int .i64 (kd 2), .bool (yd 2), .int .i64 0, .int .i64 0, .string ⟨#[]⟩, .slice none 0 0] 27))
  clear hw a0 a1 a2 a3 a4 a5 f0 f1 f2 f3 f4 f5 R
  go_wp2
  go_loopw [20] (fun i wr => i = .int .i64 (0 : Int) ∧ Hid (Box wr w.heap.size #[.int .i64 0, .bool false, .int .i64 0, .int .i64 0, .string ⟨#[]⟩, .slice none 0 0]) ∧ Hid (Box wr w9.heap.size #[.int .i64 (kd 2), .bool (yd 2), .int .i64 0, .int .i64 0, .string ⟨#[]⟩, .slice none 0 0]) ∧ Hid (Below w.heap.size w wr)) (fun _ _ => 0)
  case atStart => exact ⟨rfl, R1, XA, HW⟩
  case round =>
    obtain ⟨rfl, HR, HX, HB⟩ := hrel
    clear R1 XA HW
    have R5 := unhide HR
    obtain ⟨y0, y1, y2, y3, y4, y5⟩ := (unhide HX).tell
    obtain ⟨r0, r1, r2, r3, r4, r5⟩ := R5.tell
    obtain ⟨o0, o1, o2, o3, o4, o5⟩ := R5.thaw
    have lb5 := R5.low
    clear R5
    go_wp2
    exact bodyPost_ret (v := told 2) (by simp [results, Tryz.results122, go_sem, r0, r1, r2, r3, r4, r5]) rfl ⟨rfl, below_put6 (unhide HB) (Nat.le_refl _)⟩
end Go.Proofs.YtdkgapapdjefdaaGreatDoor
