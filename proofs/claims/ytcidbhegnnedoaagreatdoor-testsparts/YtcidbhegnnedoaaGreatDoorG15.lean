/- Walks: matching.equalLists, out of what matching.equal tells of each pair. -/
import Derived.Test.YtcidbhegnnedoaaGreatDoorG14
import Derived.Test.YtcidbhegnnedoaaGreatDoorG09
namespace Go.Proofs.YtcidbhegnnedoaaGreatDoor
open Go.RowKit

/-- all but one block is as it was -/
structure But (p : Nat) (w w' : World) : Prop where
  os : w'.os = w.os
  tape : w'.tape = w.tape
  output : w'.output = w.output
  size : w.heap.size ≤ w'.heap.size
  block : ∀ k, k < w.heap.size → k ≠ p → w'.heap[k]? = w.heap[k]?
theorem But.refl (p : Nat) (w : World) : But p w w := ⟨rfl, rfl, rfl, Nat.le_refl _, fun _ _ _ => rfl⟩
theorem But.trans {p : Nat} {a b c : World} (h : But p a b) (k : But p b c) : But p a c :=
  ⟨k.os.trans h.os, k.tape.trans h.tape, k.output.trans h.output, Nat.le_trans h.size k.size, fun i hi hp => (k.block i (Nat.lt_of_lt_of_le hi h.size) hp).trans (h.block i hi hp)⟩
theorem But.of {p : Nat} {w w' : World} (h : Below w.heap.size w w') : But p w w' := ⟨h.os, h.tape, h.output, h.size, fun k hk _ => h.block k hk⟩
theorem But.on {p : Nat} {a b c : World} (h : But p a b) (k : Below a.heap.size b c) : But p a c :=
  ⟨k.os.trans h.os, k.tape.trans h.tape, k.output.trans h.output, Nat.le_trans h.size k.size, fun i hi hp => (k.block i hi).trans (h.block i hi hp)⟩
theorem But.set {p j : Nat} {w : World} {v : Value} : But p w (w.setCell ⟨p, j, none⟩ v) :=
  ⟨rfl, rfl, rfl, by simp [World.setCell], fun k _ hk => Below.heap_setCell w ⟨p, j, none⟩ v k hk⟩
theorem But.put {p : Nat} {w : World} {v0 v1 v2 v3 v4 v5 : Value} : But p w (put6 w p v0 v1 v2 v3 v4 v5) := ((((But.set.trans But.set).trans But.set).trans But.set).trans But.set).trans But.set
theorem But.below {p B : Nat} {w w' : World} (h : But p w w') (hp : B ≤ p) (hw : B ≤ w.heap.size) : Below B w w' :=
  ⟨h.os, h.tape, h.output, h.size, fun k hk => h.block k (by omega) (by omega)⟩
theorem But.cell {p : Nat} {w w' : World} (h : But p w w') {q : Addr} (hq : q.block < w.heap.size) (hp : q.block ≠ p) : w'.cell? q = w.cell? q := World.cell?_of_block (w := w) (h.block q.block hq hp)
theorem But.frozen {p : Nat} {w w' : World} (h : But p w w') {q : Addr} (hq : q.block < w.heap.size) (hp : q.block ≠ p) : w'.frozen? q = w.frozen? q := World.frozen?_of_block (w := w) (h.block q.block hq hp)
theorem St.but {n : Nat} {w w' : World} {p s : Nat} (h : St w p s) (hb : But n w w') (ne : p ≠ n) : St w' p s :=
  ⟨(hb.cell (q := ⟨p, 0, none⟩) h.2.2 ne).trans h.1, (hb.frozen (q := ⟨p, 0, none⟩) h.2.2 ne).trans h.2.1, Nat.lt_of_lt_of_le h.2.2 hb.size⟩
theorem Box.but {p : Nat} {w w' : World} {b : Nat} {v : Array Value} (h : Box w b v) (hb : But p w w') (ne : b ≠ p) : Box w' b v := by
  have c : ∀ o, w'.cell? ⟨b, o, none⟩ = w.cell? ⟨b, o, none⟩ := fun o => hb.cell (q := ⟨b, o, none⟩) h.low ne
  exact ⟨Nat.lt_of_lt_of_le h.low hb.size, by rw [c]; exact h.at0, by rw [c]; exact h.at1, by rw [c]; exact h.at2, by rw [c]; exact h.at3, by rw [c]; exact h.at4, by rw [c]; exact h.at5, fun o => by rw [hb.frozen (q := ⟨b, o, none⟩) h.low ne]; exact h.free o⟩

/-- what matching.equal tells of two trees -/
def EqC (T : Tree) : Prop := ∀ (U : Tree) (B : Nat) (w : World) (v u : Array Value) (p s d : Nat), Mem B w T v → Mem B w U u → B ≤ p → St w p s → s ≤ 2000 → 1 ≤ d → d ≤ 21 →
  Calls Tryz.prog 57 #[.pointer (some ⟨p, 0, none⟩), .agg v, .agg u, .int .i64 (d : Int)] w fun e w' => e = .returned (told (eqF T U s d).1) ∧ St w' p (eqF T U s d).2 ∧ But p w w'

theorem eqL_nil (ks : List Tree) (a s d : Nat) : eqL [] ks a s d = (a, s) := by rw [eqL]
theorem eqL_stop {u v : Tree} {us vs : List Tree} {a s d : Nat} (h : min a (eqF u v s d).1 = 0 ∨ 2000 < (eqF u v s d).2) : eqL (u :: us) (v :: vs) a s d = (min a (eqF u v s d).1, (eqF u v s d).2) := by rw [eqL, if_pos h]
theorem eqL_go {u v : Tree} {us vs : List Tree} {a s d : Nat} (h : ¬ (min a (eqF u v s d).1 = 0 ∨ 2000 < (eqF u v s d).2)) : eqL (u :: us) (v :: vs) a s d = eqL us vs (min a (eqF u v s d).1) (eqF u v s d).2 d := by rw [eqL, if_neg h]

set_option maxHeartbeats 1000000 in
theorem eqLists_no (n n' : Nat) (a a' : Option Addr) (cap cap' : Nat) (w : World) (p : Nat) (d : Int) (hl : ¬ n = n') :
    Calls Tryz.prog 73 #[.pointer (some ⟨p, 0, none⟩), .slice a n cap, .slice a' n' cap', .int .i64 d] w fun e w' => e = .returned (told 0) ∧ Below w.heap.size w w' := by
  have h5' : ((n : Int) != (n' : Int)) = true := by simp; omega
  go_enter Tryz.func73, Tryz.ntmps73
  go_wp2_with fail
  refine (truth_any _ _).mono ?_
  rintro e w9 ⟨rfl, hb⟩
  have R := Box.new.keep hb (by simp)
  have hw := (vbelow_new w _).trans (hb.mono (by simp))
  clear hb
  obtain ⟨a0, a1, a2, a3, a4, a5⟩ := R.tell
  obtain ⟨f0, f1, f2, f3, f4, f5⟩ := R.thaw
  have lb := R.low
  go_wp2
  exact bodyPost_ret (v := told 0) (by simp [results, Tryz.results73, go_sem, a0, a1, a2, a3, a4, a5, kd, yd]) rfl ⟨rfl, below_put6 hw (Nat.le_refl _)⟩

set_option maxHeartbeats 4000000 in
theorem eqLists_yes (ks ks' : List Tree) (IH : ∀ u ∈ ks, EqC u) (B : Nat) (w : World) (b b' off off' cap cap' p s d : Nat) (hl : ks.length = ks'.length) (hn : ks.length ≤ 9223372036854775807) (hm : MemL B w ks b off) (hm' : MemL B w ks' b' off') (hb1 : b < B) (hb2 : b' < B) (hp : B ≤ p) (hS : St w p s) (hs : s ≤ 2000) (hd1 : 1 ≤ d) (hd : d ≤ 21) :
    Calls Tryz.prog 73 #[.pointer (some ⟨p, 0, none⟩), .slice (some ⟨b, off, none⟩) ks.length cap, .slice (some ⟨b', off', none⟩) ks'.length cap', .int .i64 (d : Int)] w fun e w' => e = .returned (told (eqL ks ks' 2 s d).1) ∧ St w' p (eqL ks ks' 2 s d).2 ∧ But p w w' := by
  have HL := hide hl
  rw [← hl]
  clear hl
  have IH' := hide IH
  have M1 := hide hm
  have M2 := hide hm'
  have S0 := hide hS
  have hBw : B ≤ w.heap.size := Nat.le_of_lt (Nat.lt_of_le_of_lt hp hS.2.2)
  have hpw := hS.2.2
  clear IH hm hm' hS
  go_enter Tryz.func73, Tryz.ntmps73
  go_wp2_with fail
  refine (truth_any _ _).mono ?_
  rintro e w9 ⟨rfl, hb⟩
  have R := Box.new.keep hb (by simp)
  have hw := (vbelow_new w _).trans (hb.mono (by simp))
  clear hb
  obtain ⟨a0, a1, a2, a3, a4, a5⟩ := R.tell
  obtain ⟨f0, f1, f2, f3, f4, f5⟩ := R.thaw
  have lb := R.low
  have R0 := hide R
  have XA := hide (Box.new (w := w9) (t := 26) (a0 := .int .i64 (kd 2)) (a1 := .bool (yd 2)) (a2 := .int .i64 0) (a3 := .int .i64 0) (a4 := .string ⟨#[]⟩) (a5 := .slice none 0 0))
  have hw9 := hw.size
  have HW := hide (But.of (p := p) (hw.alloc hw9 (.cells #[.int .i64 (kd 2), .bool (yd 2), .int .i64 0, .int .i64 0, .string ⟨#[]⟩, .slice none 0 0] 26)))
  have R1 := hide (R.over (o := .cells #[.int .i64 (kd 2), .bool (yd 2), .int .i64 0, .int .i64 0, .string ⟨#[]⟩, .slice none 0 0] 26))
  have S1 := hide ((unhide S0).below (hw.alloc hw9 (.cells #[.int .i64 (kd 2), .bool (yd 2), .int .i64 0, .int .i64 0, .string ⟨#[]⟩, .slice none 0 0] 26)) hpw)
  clear hw a0 a1 a2 a3 a4 a5 f0 f1 f2 f3 f4 f5 R R0 S0
  go_wp2
  go_loopw [20] (fun i wr => ∃ m ti si : Nat, m ≤ ks.length ∧ i = .int .i64 (m : Int) ∧ Hid (eqL ks ks' 2 s d = eqL (ks.drop m) (ks'.drop m) ti si d) ∧ ti ≤ 2 ∧ si ≤ 2000 ∧ Hid (St wr p si) ∧ Hid (Box wr w.heap.size #[.int .i64 0, .bool false, .int .i64 0, .int .i64 0, .string ⟨#[]⟩, .slice none 0 0]) ∧ Hid (Box wr w9.heap.size #[.int .i64 (kd ti), .bool (yd ti), .int .i64 0, .int .i64 0, .string ⟨#[]⟩, .slice none 0 0]) ∧ Hid (But p w wr)) (fun i _ => ks.length - (intOf i).toNat)
  case atStart => exact ⟨0, 2, s, Nat.zero_le _, rfl, hide rfl, Nat.le_refl _, hs, S1, R1, XA, HW⟩
  case round =>
    obtain ⟨m, ti, si, hml, rfl, H, hti, hsi, HS, HR, HX, HB⟩ := hrel
    clear S1 R1 XA HW
    by_cases hlt2 : m < ks.length
    · have hi1 : (m : Int) < (ks.length : Int) := by omega
      obtain ⟨u, hu⟩ : ∃ u, ks[m]? = some u := ⟨_, List.getElem?_eq_getElem hlt2⟩
      obtain ⟨u', hu'⟩ : ∃ u, ks'[m]? = some u := ⟨_, List.getElem?_eq_getElem (by have := unhide HL; omega)⟩
      have HU := hide (unhide IH' u (List.mem_of_getElem? hu))
      have hwB := (unhide HB).below hp hBw
      obtain ⟨cs, h6, hmu⟩ := MemL.at (MemL.below hwB hb1 (unhide M1)) m u hu
      obtain ⟨cs', h6', hmu'⟩ := MemL.at (MemL.below hwB hb2 (unhide M2)) m u' hu'
      clear hwB
      have HM := hide hmu
      have HM' := hide hmu'
      rw [drop_at hlt2 hu, drop_at (by have := unhide HL; omega) hu'] at H
      cases u with
      | mk k y c x t kk =>
      cases u' with
      | mk k' y' c' x' t' kk' =>
        rw [Mem] at hmu hmu'
        obtain ⟨_, _, a1, cap1, rfl, _⟩ := hmu
        obtain ⟨_, _, a2, cap2, rfl, _⟩ := hmu'
        obtain ⟨u0, u1, u2, u3, u4, u5, hu6, c0, c1, c2, c3, c4, c5⟩ := h6
        simp only [Array.mk.injEq, List.cons.injEq, and_true] at hu6
        obtain ⟨rfl, rfl, rfl, rfl, rfl, rfl⟩ := hu6
        obtain ⟨u0, u1, u2, u3, u4, u5, hu6, e0, e1, e2, e3, e4, e5⟩ := h6'
        simp only [Array.mk.injEq, List.cons.injEq, and_true] at hu6
        obtain ⟨rfl, rfl, rfl, rfl, rfl, rfl⟩ := hu6
        have hBr := Nat.le_trans hBw (unhide HB).size
        have hpr : p < wr.heap.size := (unhide HS).2.2
        have C := hide (fun wx (hx : Below wr.heap.size wr wx) => unhide HU (.mk k' y' c' x' t' kk') B wx _ _ p si d (Mem.below (hx.mono hBr) (unhide HM)) (Mem.below (hx.mono hBr) (unhide HM')) hp ((unhide HS).below hx hpr) hsi hd1 hd)
        have hle := hide (eq_le (.mk k y c x t kk) (.mk k' y' c' x' t' kk') si d)
        have AN := hide (fun g (hg : g ≤ 2) wx => and_told ti g hti hg wx)
        obtain ⟨v0, v1, v2, v3, v4, v5⟩ := (unhide HX).tell
        have K2 := hide (fun wx w2 (hx : Below wr.heap.size wr wx) (h2 : But p wx w2) => ((unhide HX).keep hx (unhide HX).low).but h2 (by omega))
        clear hu hu' HU HM HM'
        go_wp2_with fail
        go_region_with (first
          | (go_at_call_of 57 (Value.pointer (some ⟨p, 0, none⟩)); refine (unhide C _ ((Below.refl _ _).drew)).mono ?_; rintro e w2 ⟨rfl, hS2, hb2⟩; have X2 := unhide K2 _ _ ((Below.refl _ _).drew) hb2; obtain ⟨z0, z1, z2, z3, z4, z5⟩ := X2.tell)
          | (refine (unhide AN _ (unhide hle) _).mono ?_; rintro e w3 ⟨rfl, hb3⟩; have X3 := X2.keep hb3 X2.low; obtain ⟨q0, q1, q2, q3, q4, q5⟩ := X3.tell; obtain ⟨g0, g1, g2, g3, g4, g5⟩ := X3.thaw))
        all_goals
          have hb2w : But p wr w2 := (But.of ((Below.refl _ _).drew)).trans hb2
          have R3 := ((unhide HR).but hb2w (by omega)).keep hb3 (Nat.lt_of_lt_of_le (unhide HR).low hb2w.size)
          have S3 := hS2.below hb3 hS2.2.2
          have B3 := ((unhide HB).trans hb2w).on (hb3.mono (Nat.le_trans (unhide HB).size hb2w.size))
          have hle' := unhide hle
          have STP := hide (fun h => eqL_stop (u := .mk k y c x t kk) (v := .mk k' y' c' x' t' kk') (us := ks.drop (m + 1)) (vs := ks'.drop (m + 1)) (a := ti) (s := si) (d := d) h)
          have GO := hide (fun h => eqL_go (u := .mk k y c x t kk) (v := .mk k' y' c' x' t' kk') (us := ks.drop (m + 1)) (vs := ks'.drop (m + 1)) (a := ti) (s := si) (d := d) h)
          clear hS2 hb2 X2 z0 z1 z2 z3 z4 z5 v0 v1 v2 v3 v4 v5 hb3 hb2w c0 c1 c2 c3 c4 c5 e0 e1 e2 e3 e4 e5 K2 C AN HR HS HX HB hle
          generalize eqF (.mk k y c x t kk) (.mk k' y' c' x' t' kk') si d = E at *
          obtain ⟨g, n⟩ := E
          simp only at STP GO hle' S3
          obtain ⟨h, hh⟩ : ∃ h, h = min ti g := ⟨_, rfl⟩
          have hh2 : h ≤ 2 := by omega
          rw [← hh] at STP GO
          simp only [← hh]
          have X4 := hide (X3.put (.int .i64 (kd h)) (.bool (yd h)) (.int .i64 0) (.int .i64 0) (.string ⟨#[]⟩) (.slice none 0 0))
          have R4 := hide (R3.but (But.put (p := w9.heap.size) (v0 := .int .i64 (kd h)) (v1 := .bool (yd h)) (v2 := .int .i64 0) (v3 := .int .i64 0) (v4 := .string ⟨#[]⟩) (v5 := .slice none 0 0)) (by omega))
          have S4 := hide (S3.but (But.put (p := w9.heap.size) (v0 := .int .i64 (kd h)) (v1 := .bool (yd h)) (v2 := .int .i64 0) (v3 := .int .i64 0) (v4 := .string ⟨#[]⟩) (v5 := .slice none 0 0)) (by omega))
          have B4 := hide (B3.on (below_put6 (v0 := .int .i64 (kd h)) (v1 := .bool (yd h)) (v2 := .int .i64 0) (v3 := .int .i64 0) (v4 := .string ⟨#[]⟩) (v5 := .slice none 0 0) (Below.refl w.heap.size w3) hw9))
          clear X3 R3 S3 B3 hh
          by_cases hz : h = 0
          · have E := hide ((unhide H).trans (unhide STP (.inl hz)))
            have IFc := hide (fun wx => isFalse_is (kd h) (yd h) 0 0 (.string ⟨#[]⟩) (.slice none 0 0) wx true (by rw [tv_told hh2]; simp [hz]))
            clear H STP GO hz
            go_wp2_with fail
            refine (unhide IFc _).mono ?_
            rintro e w5 ⟨rfl, hb5⟩
            have R5 := (unhide R4).keep hb5 (unhide R4).low
            have S5 := hide ((unhide S4).below hb5 (unhide S4).2.2)
            have B5 := hide ((unhide B4).on (hb5.mono (unhide B4).size))
            obtain ⟨y0, y1, y2, y3, y4, y5⟩ := ((unhide X4).keep hb5 (unhide X4).low).tell
            obtain ⟨r0, r1, r2, r3, r4, r5⟩ := R5.tell
            obtain ⟨o0, o1, o2, o3, o4, o5⟩ := R5.thaw
            have lb5 := R5.low
            clear hb5 R4 S4 B4 X4 IFc q0 q1 q2 q3 q4 q5 g0 g1 g2 g3 g4 g5 R5
            go_wp2
            refine bodyPost_ret (v := told h) (by simp [results, Tryz.results73, go_sem, r0, r1, r2, r3, r4, r5]) rfl ?_
            rw [unhide E]
            exact ⟨rfl, (unhide S5).but But.put (by omega), (unhide B5).on (below_put6 (Below.refl _ _) (Nat.le_refl _))⟩
          · have IFc := hide (fun wx => isFalse_is (kd h) (yd h) 0 0 (.string ⟨#[]⟩) (.slice none 0 0) wx false (by rw [tv_told hh2]; simp [hz]))
            have HZ := hide hz
            clear hz
            go_wp2_with fail
            refine (unhide IFc _).mono ?_
            rintro e w5 ⟨rfl, hb5⟩
            have R5 := (unhide R4).keep hb5 (unhide R4).low
            have S5 := (unhide S4).below hb5 (unhide S4).2.2
            have B5 := hide ((unhide B4).on (hb5.mono (unhide B4).size))
            have X5 := (unhide X4).keep hb5 (unhide X4).low
            have hR5 := hide R5
            have hS5 := hide S5
            have hX5 := hide X5
            obtain ⟨y0, y1, y2, y3, y4, y5⟩ := X5.tell
            obtain ⟨r0, r1, r2, r3, r4, r5⟩ := R5.tell
            obtain ⟨o0, o1, o2, o3, o4, o5⟩ := R5.thaw
            obtain ⟨s0, s1, s2⟩ := S5
            have lb5 := R5.low
            clear hb5 R4 S4 B4 X4 IFc q0 q1 q2 q3 q4 q5 g0 g1 g2 g3 g4 g5 R5 X5
            by_cases hN : (2000 : Int) < (n : Int)
            · have E := hide ((unhide H).trans (unhide STP (.inr (by omega))))
              clear H STP GO
              go_wp2
              refine bodyPost_ret (v := told h) (by simp [results, Tryz.results73, go_sem, r0, r1, r2, r3, r4, r5]) rfl ?_
              rw [unhide E]
              exact ⟨rfl, (unhide hS5).but But.put (by omega), (unhide B5).on (below_put6 (Below.refl _ _) (Nat.le_refl _))⟩
            · have E := hide ((unhide H).trans (unhide GO (fun q => q.elim (fun q => unhide HZ q) (fun q => by omega))))
              clear H STP GO
              go_wp2
              go_round
              case rel => exact ⟨m + 1, h, n, by omega, by go_num, E, hh2, by omega, hS5, hR5, hX5, B5⟩
              case measure => simp [intOf]; omega
    · obtain rfl : m = ks.length := by omega
      have E : eqL ks ks' 2 s d = (ti, si) := by
        have h := unhide H
        rw [List.drop_length, eqL_nil] at h
        exact h
      replace E := hide E
      have R5 := unhide HR
      obtain ⟨y0, y1, y2, y3, y4, y5⟩ := (unhide HX).tell
      obtain ⟨r0, r1, r2, r3, r4, r5⟩ := R5.tell
      obtain ⟨o0, o1, o2, o3, o4, o5⟩ := R5.thaw
      have lb5 := R5.low
      clear R5
      go_wp2
      refine bodyPost_ret (v := told ti) (by simp [results, Tryz.results73, go_sem, r0, r1, r2, r3, r4, r5]) rfl ?_
      rw [unhide E]
      exact ⟨rfl, (unhide HS).but But.put (by omega), (unhide HB).on (below_put6 (Below.refl _ _) (Nat.le_refl _))⟩
end Go.Proofs.YtcidbhegnnedoaaGreatDoor

/- A walk over tokens: what it holds, Left, Next, Pass, Sees, Take, Need, End. -/
namespace Go.Proofs.YtcidbhegnnedoaaGreatDoor
open Go.RowKit

theorem wtkCs_at : ∀ (l : List Tk) (i : Nat) (t : Tk), l[i]? = some t → ∀ j v, (tkC t)[j]? = some v → (tkCs l)[i * 5 + j]? = some v
  | [], i, t, h, j, v, _ => by simp at h
  | a :: l, 0, t, h, j, v, hv => by
    simp only [List.getElem?_cons_zero, Option.some.injEq] at h
    subst h
    have hj : j < (tkC a).length := by
      rcases Nat.lt_or_ge j (tkC a).length with q | q
      · exact q
      · rw [List.getElem?_eq_none q] at hv; cases hv
    rw [tkCs, List.flatMap_cons, Nat.zero_mul, Nat.zero_add, List.getElem?_append_left hj]
    exact hv
  | a :: l, i + 1, t, h, j, v, hv => by
    have hl : (tkC a).length = 5 := rfl
    rw [tkCs, List.flatMap_cons, List.getElem?_append_right (by omega), hl, show (i + 1) * 5 + j - 5 = i * 5 + j by omega]
    exact wtkCs_at l i t (by simpa using h) j v hv

/-- tokens that lie in a block -/
structure TKS (w : World) (g : Nat) (l : List Tk) : Prop where
  low : g < w.heap.size
  cell : ∀ i t, l[i]? = some t → ∀ j v, (tkC t)[j]? = some v → w.cell? ⟨g, i * 5 + j, none⟩ = some v
theorem TKS.keep {w w' : World} {g n : Nat} {l : List Tk} (h : TKS w g l) (hb : Below n w w') (hl : g < n) : TKS w' g l :=
  ⟨Nat.lt_of_lt_of_le h.low hb.size, fun i t ht j v hv => (hb.cell (p := ⟨g, i * 5 + j, none⟩) hl).trans (h.cell i t ht j v hv)⟩
theorem TKS.five {w : World} {g i : Nat} {l : List Tk} {t : Tk} (h : TKS w g l) (ht : l[i]? = some t) :
    w.cell? ⟨g, i * 5, none⟩ = some (.int .i64 t.k) ∧ w.cell? ⟨g, i * 5 + 1, none⟩ = some (.string ⟨t.t.toArray⟩) ∧ w.cell? ⟨g, i * 5 + 2, none⟩ = some (.int .i64 t.c) ∧ w.cell? ⟨g, i * 5 + 3, none⟩ = some (.int .i64 t.x) ∧ w.cell? ⟨g, i * 5 + 4, none⟩ = some (.int .i64 (t.a : Int)) :=
  ⟨h.cell i t ht 0 _ rfl, h.cell i t ht 1 _ rfl, h.cell i t ht 2 _ rfl, h.cell i t ht 3 _ rfl, h.cell i t ht 4 _ rfl⟩

/-- a walk at block R: the tokens from the i-th one on are left -/
structure WK (w : World) (R g n i : Nat) (e : Int) : Prop where
  low : R < w.heap.size
  le : i ≤ n
  left : ∃ p c, w.cell? ⟨R, 0, none⟩ = some (.slice p (n - i) c) ∧ (i < n → p = some ⟨g, i * 5, none⟩) ∧ n - i ≤ c
  fin : w.cell? ⟨R, 1, none⟩ = some (.int .i64 e)
  free : w.frozen? ⟨R, 0, none⟩ = false
theorem WK.keep {w w' : World} {R g n i m : Nat} {e : Int} (h : WK w R g n i e) (hb : Below m w w') (hl : R < m) : WK w' R g n i e := by
  obtain ⟨p, c, h1, h2, h3⟩ := h.left
  exact ⟨Nat.lt_of_lt_of_le h.low hb.size, h.le, ⟨p, c, (hb.cell (p := ⟨R, 0, none⟩) hl).trans h1, h2, h3⟩, (hb.cell (p := ⟨R, 1, none⟩) hl).trans h.fin, (hb.frozen (p := ⟨R, 0, none⟩) hl).trans h.free⟩

set_option maxHeartbeats 1000000 in
theorem left_any (R g n i : Nat) (e : Int) (w : World) (h : WK w R g n i e) :
    Calls Tryz.prog 49 #[.pointer (some ⟨R, 0, none⟩)] w fun r w' => r = .returned (.int .i64 ((n - i : Nat) : Int)) ∧ w' = w := by
  obtain ⟨p, c, h1, _, _⟩ := h.left
  go_enter Tryz.func49, Tryz.ntmps49
  go_wp2
  go_ret
  exact ⟨rfl, rfl⟩

/-- whether a word or a sign comes next -/
def seesB (l : List Tk) (i : Nat) (s : List UInt8) : Bool := match l[i]? with
  | some t => (t.k == 1 || t.k == 4) && t.t == s
  | none => false

def seesL (l : List Tk) : Nat → List ByteArray → Bool
  | _, [] => true
  | i, s :: ss => seesB l i s.data.toList && seesL l (i + 1) ss
theorem seesL_short (l : List Tk) : ∀ (ss : List ByteArray) (i : Nat), l.length - i < ss.length → seesL l i ss = false
  | [], i, h => by simp at h
  | s :: ss, i, h => by
    rw [seesL]
    by_cases hi : i < l.length
    · rw [seesL_short l ss (i + 1) (by simp at h; omega), Bool.and_false]
    · have : seesB l i s.data.toList = false := by
        unfold seesB
        rw [List.getElem?_eq_none (by omega)]
      rw [this, Bool.false_and]
/-- texts that lie in a block -/
structure TXB (w : World) (p : Nat) (ss : List ByteArray) : Prop where
  low : p < w.heap.size
  cell : ∀ (m : Nat) (s : ByteArray), ss[m]? = some s → w.cell? ⟨p, m, none⟩ = some (.string s)
theorem TXB.keep {w w' : World} {p n : Nat} {ss : List ByteArray} (h : TXB w p ss) (hb : Below n w w') (hl : p < n) : TXB w' p ss :=
  ⟨Nat.lt_of_lt_of_le h.low hb.size, fun m s hs => (hb.cell (p := ⟨p, m, none⟩) hl).trans (h.cell m s hs)⟩

theorem TXB.one (w : World) (t : TypeId) (s : ByteArray) : TXB (w.alloc (.cells #[.string s] t)) w.heap.size [s] := ⟨by simp, fun m x hx => by
  cases m with
  | zero => simp at hx; subst hx; simp [go_sem]
  | succ m => simp at hx⟩
theorem TXB.two (w : World) (t : TypeId) (s r : ByteArray) : TXB (w.alloc (.cells #[.string s, .string r] t)) w.heap.size [s, r] := ⟨by simp, fun m x hx => by
  match m, hx with
  | 0, hx => simp at hx; subst hx; simp [go_sem]
  | 1, hx => simp at hx; subst hx; simp [go_sem]
  | m + 2, hx => simp at hx⟩

set_option maxHeartbeats 8000000 in
theorem sees_any (R g i : Nat) (e : Int) (l : List Tk) (ss : List ByteArray) (p : Nat) (w : World) (h : WK w R g l.length i e) (hT : TKS w g l) (hp : TXB w p ss) (hs : ss.length ≤ 1000) (_hl : l.length ≤ 4000) :
    Calls Tryz.prog 69 #[.pointer (some ⟨R, 0, none⟩), .slice (some ⟨p, 0, none⟩) ss.length ss.length] w fun r w' => r = .returned (.bool (seesL l i ss)) ∧ Below w.heap.size w w' := by
  by_cases hsh : l.length - i < ss.length
  · rw [seesL_short l ss i hsh]
    obtain ⟨q, c, h1, h2, h3⟩ := h.left
    have hsh' : ((l.length - i : Nat) : Int) < (ss.length : Int) := by omega
    clear hp hT
    go_enter Tryz.func69, Tryz.ntmps69
    go_wp2
    go_ret
    exact ⟨rfl, Below.refl _ _⟩
  · have hsh' : ¬ ((l.length - i : Nat) : Int) < (ss.length : Int) := by omega
    have HW := hide h
    have HT := hide hT
    have HP := hide hp
    obtain ⟨q, c, h1, h2, h3⟩ := h.left
    clear h hT hp
    generalize hSB : seesL l i ss = SB
    go_enter Tryz.func69, Tryz.ntmps69
    go_wp2
    clear h1 h2 h3
    go_loopw [18] (fun x wr => ∃ m : Nat, m ≤ ss.length ∧ x = .int .i64 (m : Int) ∧ Hid (SB = seesL l (i + m) (ss.drop m)) ∧ Hid (Below w.heap.size w wr)) (fun x _ => ss.length - (intOf x).toNat)
    case atStart => exact ⟨0, Nat.zero_le _, rfl, hide hSB.symm, hide (Below.refl _ _)⟩
    case round =>
      obtain ⟨m, hml, rfl, H, HB⟩ := hrel
      clear hSB
      by_cases hlt2 : m < ss.length
      · have hi1 : (m : Int) < (ss.length : Int) := by omega
        obtain ⟨s, hu⟩ : ∃ s, ss[m]? = some s := ⟨_, List.getElem?_eq_getElem hlt2⟩
        have hdrop : ss.drop m = s :: ss.drop (m + 1) := by
          rw [List.drop_eq_getElem_cons hlt2]
          congr 1
          rw [List.getElem?_eq_getElem hlt2] at hu
          exact Option.some.inj hu
        obtain ⟨t, ht⟩ : ∃ t, l[i + m]? = some t := ⟨_, List.getElem?_eq_getElem (by omega)⟩
        have HW2 := (unhide HW).keep (unhide HB) (unhide HW).low
        obtain ⟨q, c, h1, h2, h3⟩ := HW2.left
        obtain rfl := h2 (by omega)
        obtain ⟨c0, c1, c2, c3, c4⟩ := ((unhide HT).keep (unhide HB) (unhide HT).low).five ht
        rw [Nat.add_mul] at c0 c1 c2 c3 c4
        have cs := ((unhide HP).keep (unhide HB) (unhide HP).low).cell m s hu
        have hm2 : m < l.length - i := by omega
        have HS : Hid (SB = (((t.k == 1 || t.k == 4) && t.t == s.data.toList) && seesL l (i + (m + 1)) (ss.drop (m + 1)))) := hide (by
          rw [unhide H, hdrop, seesL, Nat.add_assoc]
          congr 1
          unfold seesB
          rw [ht])
        have NB := hide (bv (unhide HB) (vbelow_new wr (.cells #[.int .i64 t.k, .string ⟨t.t.toArray⟩, .int .i64 t.c, .int .i64 t.x, .int .i64 (t.a : Int)] 97)))
        clear H hdrop hu ht h2 HW2 HB
        by_cases hk : t.k = 1 ∨ t.k = 4
        · by_cases ht2 : t.t = s.data.toList
          · have HE : Hid (SB = seesL l (i + (m + 1)) (ss.drop (m + 1))) := hide (by rw [unhide HS, ht2]; rcases hk with q | q <;> simp [q])
            have hs : s = ⟨t.t.toArray⟩ := by rw [ht2]
            subst hs
            clear HS ht2
            rcases hk with hk | hk
            · rw [hk] at c0 NB
              go_wp2
              go_round
              case rel => exact ⟨m + 1, by omega, by go_num, HE, NB⟩
              case measure => simp [intOf]; omega
            · rw [hk] at c0 NB
              go_wp2
              go_round
              case rel => exact ⟨m + 1, by omega, by go_num, HE, NB⟩
              case measure => simp [intOf]; omega
          · have HE : Hid (SB = false) := hide (by rw [unhide HS]; simp [ht2])
            have hq : (t.t == s.toList) = false := by
              rw [beq_eq_false_iff_ne]
              intro q
              apply ht2
              have q2 : (⟨t.t.toArray⟩ : ByteArray).toList = s.toList := by simpa using q
              rw [← tl_eq.1 q2]
            clear HS ht2
            rcases hk with hk | hk
            · rw [hk] at c0 NB
              go_wp2
              go_ret
              rw [unhide HE]
              exact ⟨rfl, unhide NB⟩
            · rw [hk] at c0 NB
              go_wp2
              go_ret
              rw [unhide HE]
              exact ⟨rfl, unhide NB⟩
        · have HE : Hid (SB = false) := hide (by
            rw [unhide HS]
            have n1 : (t.k == 1) = false := by rw [beq_eq_false_iff_ne]; omega
            have n4 : (t.k == 4) = false := by rw [beq_eq_false_iff_ne]; omega
            rw [n1, n4]; rfl)
          have n1 : (t.k != 1) = true := by rw [bne_iff_ne]; omega
          have n4 : (t.k != 4) = true := by rw [bne_iff_ne]; omega
          clear HS
          go_wp2
          go_ret
          rw [unhide HE]
          exact ⟨rfl, unhide NB⟩
      · obtain rfl : m = ss.length := by omega
        have HE : Hid (SB = true) := hide (by rw [unhide H, List.drop_length, seesL])
        clear H
        go_wp2
        go_ret
        rw [unhide HE]
        exact ⟨rfl, unhide HB⟩

theorem WK.set {w : World} {R g n i j : Nat} {e : Int} (h : WK w R g n i e) (hj : j ≤ n) {p : Option Addr} {c : Nat} (hp : j < n → p = some ⟨g, j * 5, none⟩) (hc : n - j ≤ c) : WK (w.setCell ⟨R, 0, none⟩ (.slice p (n - j) c)) R g n j e := by
  obtain ⟨q, d, h1, _, _⟩ := h.left
  have hf := h.fin
  have hz := h.free
  refine ⟨by simpa using h.low, hj, ⟨p, c, ?_, hp, hc⟩, ?_, ?_⟩
  · simp [go_sem, h1]
  · simp [go_sem, hf]
  · simp [go_sem, hz]
theorem TKS.but {w w' : World} {R g : Nat} {l : List Tk} (h : TKS w g l) (hb : But R w w') (ne : g ≠ R) : TKS w' g l :=
  ⟨Nat.lt_of_lt_of_le h.low hb.size, fun i t ht j v hv => (hb.cell (q := ⟨g, i * 5 + j, none⟩) h.low ne).trans (h.cell i t ht j v hv)⟩

theorem add_five (g i k : Nat) : (⟨g, i * 5, none⟩ : Addr).add (k * 5) = ⟨g, (i + k) * 5, none⟩ := by
  by_cases hk : k * 5 = 0
  · have : k = 0 := by omega
    subst this
    rfl
  · simp only [Addr.add, if_neg hk]
    rw [Nat.add_mul]

set_option maxHeartbeats 4000000 in
theorem take_any (R g i : Nat) (e : Int) (l : List Tk) (ss : List ByteArray) (p : Nat) (w : World) (h : WK w R g l.length i e) (hT : TKS w g l) (hp : TXB w p ss) (hs : ss.length ≤ 1000) (hl : l.length ≤ 4000) :
    Calls Tryz.prog 50 #[.pointer (some ⟨R, 0, none⟩), .slice (some ⟨p, 0, none⟩) ss.length ss.length] w fun r w' => r = .returned (.bool (seesL l i ss)) ∧ WK w' R g l.length (if seesL l i ss = true then i + ss.length else i) e ∧ But R w w' := by
  have C := hide (sees_any R g i e l ss p w h hT hp hs hl)
  have HL : Hid (seesL l i ss = true → ss.length ≤ l.length - i) := hide (by
    intro q
    by_cases hsh : l.length - i < ss.length
    · rw [seesL_short l ss i hsh] at q; cases q
    · omega)
  have HW := hide h
  clear h hT hp
  generalize seesL l i ss = SB at *
  cases SB
  · go_enter Tryz.func50, Tryz.ntmps50
    go_wp2_with fail
    refine (unhide C).mono ?_
    rintro r w1 ⟨rfl, hb⟩
    have H1 := hide ((unhide HW).keep hb (unhide HW).low)
    have H2 := hide (But.of (p := R) hb)
    clear hb
    go_wp2
    go_ret
    exact ⟨rfl, unhide H1, unhide H2⟩
  · have hle := unhide HL rfl
    have hil := (unhide HW).le
    go_enter Tryz.func50, Tryz.ntmps50
    go_wp2_with fail
    refine (unhide C).mono ?_
    rintro r w1 ⟨rfl, hb⟩
    have H1 := hide ((unhide HW).keep hb (unhide HW).low)
    have H2 := hide (But.of (p := R) hb)
    obtain ⟨q, c, h1, h2, h3⟩ := (unhide H1).left
    have hz := (unhide H1).free
    clear hb
    have hc : ss.length ≤ c := by omega
    have e1 : l.length - i - ss.length = l.length - (i + ss.length) := by omega
    go_wp2
    all_goals
      go_ret
      refine ⟨rfl, (unhide H1).set (by omega) (fun hj => ?_) (by omega), (unhide H2).trans But.set⟩
      first
        | (exfalso; omega)
        | (rw [h2 (by omega)]; exact congrArg some (add_five g i ss.length))

theorem WK.next {w : World} {R g i : Nat} {e : Int} {l : List Tk} {t : Tk} (h : WK w R g l.length i e) (ht : l[i]? = some t) : ∃ c, w.cell? ⟨R, 0, none⟩ = some (.slice (some ⟨g, i * 5, none⟩) (l.length - i) c) ∧ l.length - i ≤ c ∧ i < l.length := by
  have hi : i < l.length := by
    rcases Nat.lt_or_ge i l.length with q | q
    · exact q
    · rw [List.getElem?_eq_none q] at ht; cases ht
  obtain ⟨q, c, h1, h2, h3⟩ := h.left
  rw [h2 hi] at h1
  exact ⟨c, h1, h3, hi⟩

abbrev tokV (t : Tk) : Array Value := #[.int .i64 t.k, .string ⟨t.t.toArray⟩, .int .i64 t.c, .int .i64 t.x, .int .i64 (t.a : Int)]

set_option maxHeartbeats 2000000 in
theorem next_any (R g i : Nat) (e : Int) (l : List Tk) (t : Tk) (w : World) (h : WK w R g l.length i e) (hT : TKS w g l) (ht : l[i]? = some t) :
    Calls Tryz.prog 72 #[.pointer (some ⟨R, 0, none⟩)] w fun r w' => r = .returned (.agg (tokV t)) ∧ Below w.heap.size w w' := by
  obtain ⟨c, h1, h3, hi⟩ := h.next ht
  obtain ⟨c0, c1, c2, c3, c4⟩ := hT.five ht
  have lR := h.low
  have lg := hT.low
  have hz : (((l.length - i : Nat) : Int) == 0) = false := by rw [beq_eq_false_iff_ne]; omega
  have hp : 0 < l.length - i := by omega
  clear h hT
  go_enter Tryz.func72, Tryz.ntmps72
  go_wp2
  exact bodyPost_ret (v := .agg (tokV t)) (by simp [results, Tryz.results72, go_sem]) rfl ⟨rfl, vbelow_new _ _⟩

set_option maxHeartbeats 2000000 in
theorem end_any (R g n : Nat) (e : Int) (w : World) (h : WK w R g n n e) :
    Calls Tryz.prog 33 #[.pointer (some ⟨R, 0, none⟩)] w fun r w' => r = .returned .nilIface ∧ w' = w := by
  obtain ⟨q, c, h1, _, _⟩ := h.left
  rw [Nat.sub_self] at h1
  go_enter Tryz.func33, Tryz.ntmps33
  go_wp2
  go_ret
  exact ⟨rfl, rfl⟩

set_option maxHeartbeats 4000000 in
theorem need_yes (R g i : Nat) (e : Int) (l : List Tk) (s : ByteArray) (w : World) (h : WK w R g l.length i e) (hT : TKS w g l) (hl : l.length ≤ 4000) (hs : seesL l i [s] = true) :
    Calls Tryz.prog 52 #[.pointer (some ⟨R, 0, none⟩), .string s] w fun r w' => r = .returned .nilIface ∧ WK w' R g l.length (i + 1) e ∧ But R w w' := by
  have C := hide (fun (wx : World) (hb : Below w.heap.size w wx) (p : Nat) (hp : TXB wx p [s]) => take_any R g i e l [s] p wx (h.keep hb h.low) (hT.keep hb hT.low) hp (by simp) hl)
  rw [hs] at C
  clear h hT hs
  go_enter Tryz.func52, Tryz.ntmps52
  go_wp2_with fail
  refine (unhide C _ (vbelow_new w _) w.heap.size (TXB.one w _ s)).mono ?_
  rintro r w1 ⟨rfl, hk, hb⟩
  have HK := hide hk
  have HB := hide ((But.of (p := R) (vbelow_new w _)).trans hb)
  clear hb hk C
  go_wp2
  go_ret
  exact ⟨rfl, unhide HK, unhide HB⟩
end Go.Proofs.YtcidbhegnnedoaaGreatDoor
