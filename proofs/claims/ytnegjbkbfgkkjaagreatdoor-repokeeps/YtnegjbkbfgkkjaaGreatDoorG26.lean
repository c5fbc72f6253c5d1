/- Walks: Same of two values with one tree. -/
import Derived.Test.YtnegjbkbfgkkjaaGreatDoorG08
import Derived.Test.YtnegjbkbfgkkjaaGreatDoorG22
import Derived.Test.YtnegjbkbfgkkjaaGreatDoorG19
namespace Go.Proofs.YtnegjbkbfgkkjaaGreatDoor
open Go.RowKit Go.MapKept

theorem Six.get {w : World} {b o : Nat} {v0 v1 v2 v3 v4 v5 : Value} (h : Six w b o #[v0, v1, v2, v3, v4, v5]) : w.cell? ⟨b, o, none⟩ = some v0 ∧ w.cell? ⟨b, o + 1, none⟩ = some v1 ∧ w.cell? ⟨b, o + 2, none⟩ = some v2 ∧ w.cell? ⟨b, o + 3, none⟩ = some v3 ∧ w.cell? ⟨b, o + 4, none⟩ = some v4 ∧ w.cell? ⟨b, o + 5, none⟩ = some v5 := by
  obtain ⟨u0, u1, u2, u3, u4, u5, hu, c0, c1, c2, c3, c4, c5⟩ := h
  simp only [Array.mk.injEq, List.cons.injEq, and_true] at hu
  obtain ⟨rfl, rfl, rfl, rfl, rfl, rfl⟩ := hu
  exact ⟨c0, c1, c2, c3, c4, c5⟩
theorem Mem.form12 {B : Nat} {w : World} {T : Tree} {cs : Array Value} (h : Mem B w T cs) : ∃ (k : Int) (y : Bool) (c x : Int) (t : ByteArray) (a : Option Addr) (n cap : Nat), cs = #[.int .i64 k, .bool y, .int .i64 c, .int .i64 x, .string t, .slice a n cap] := by
  cases T
  rw [Mem] at h
  obtain ⟨_, _, a, cap, e, _⟩ := h
  exact ⟨_, _, _, _, _, _, _, _, e⟩
def SameT (T : Tree) : Prop := ∀ (B : Nat) (w : World) (u v : Array Value), B ≤ w.heap.size → Mem B w T u → Mem B w T v →
  Calls Tryz.prog 45 #[.agg u, .agg v] w fun e w' => e = .returned (.bool true) ∧ Below w.heap.size w w'

set_option maxRecDepth 100000 in
set_option maxHeartbeats 8000000 in
theorem sameT_of (k : Int) (y : Bool) (c x : Int) (t : ByteArray) (ks : List Tree) (IH : ∀ u ∈ ks, SameT u) : SameT (.mk k y c x t ks) := by
  intro B w u v hB hu hv
  rw [Mem] at hu hv
  obtain ⟨_, hks, a1, c1, rfl, k1⟩ := hu
  obtain ⟨_, _, a2, c2, rfl, k2⟩ := hv
  have HK1 := hide k1
  have HK2 := hide k2
  have IH' := hide IH
  obtain ⟨n, hn⟩ : ∃ n, n = ks.length := ⟨_, rfl⟩
  have HN := hide hn
  have HKS := hide hks
  rw [← hn]
  obtain ⟨W0, hW0⟩ : ∃ W0, W0 = (w.alloc (.cells #[.int .i64 k, .bool y, .int .i64 c, .int .i64 x, .string t, .slice a1 n c1] 81)).alloc (.cells #[.int .i64 k, .bool y, .int .i64 c, .int .i64 x, .string t, .slice a2 n c2] 81) := ⟨_, rfl⟩
  have B0 : Below w.heap.size w W0 := by rw [hW0]; exact below_via (vbelow_new _ _) (vbelow_new _ _)
  have X0 : V6 W0 w.heap.size (.int .i64 k) (.bool y) (.int .i64 c) (.int .i64 x) (.string t) (.slice a1 n c1) := by rw [hW0]; exact (V6.new w 81 _ _ _ _ _ _).keep (vbelow_new _ _) (by simp)
  have X1 : V6 W0 (w.heap.size + 1) (.int .i64 k) (.bool y) (.int .i64 c) (.int .i64 x) (.string t) (.slice a2 n c2) := by rw [hW0]; have := V6.new (w.alloc (.cells #[.int .i64 k, .bool y, .int .i64 c, .int .i64 x, .string t, .slice a1 n c1] 81)) 81 (.int .i64 k) (.bool y) (.int .i64 c) (.int .i64 x) (.string t) (.slice a2 n c2); simpa using this
  have HB0 := hide B0
  have HX0 := hide X0
  have HX1 := hide X1
  obtain ⟨x0, x1, x2, x3, x4, x5⟩ := X0.tell
  obtain ⟨y0, y1, y2, y3, y4, y5⟩ := X1.tell
  have g1 : (k != k) = false := by simp
  have g2 : (y != y) = false := by simp
  have g3 : ((n : Int) != (n : Int)) = false := by simp
  clear k1 k2 IH B0 X0 X1 hn hks
  go_enter Tryz.func45, Tryz.ntmps45
  go_upto_region 1 with fail
  rw [← hW0]
  clear hW0
  go_wp2_with fail
  go_loopw [44] (fun i wr => ∃ m : Nat, m ≤ n ∧ i = .int .i64 (m : Int) ∧ Hid (Below W0.heap.size W0 wr)) (fun i _ => n - (intOf i).toNat)
  case atStart => exact ⟨0, Nat.zero_le _, rfl, hide (Below.refl _ _)⟩
  case round =>
    obtain ⟨m, hm, rfl, HBr⟩ := hrel
    clear x0 x1 x2 x3 x4 x5 y0 y1 y2 y3 y4 y5
    by_cases hlt2 : m < n
    · have hi1 : (m : Int) < (n : Int) := by omega
      have hmk : m < ks.length := by rw [← unhide HN]; exact hlt2
      obtain ⟨u, hu⟩ : ∃ u, ks[m]? = some u := ⟨_, List.getElem?_eq_getElem hmk⟩
      have hum := List.mem_of_getElem? hu
      have hne : ks ≠ [] := by intro e; rw [e] at hmk; simp at hmk
      obtain ⟨b1, o1, rfl, l1, m1⟩ := unhide HK1 hne
      obtain ⟨b2, o2, rfl, l2, m2⟩ := unhide HK2 hne
      have BW : Below w.heap.size w wr := below_via (unhide HB0) (unhide HBr)
      obtain ⟨cs1, f1, M1⟩ := MemL.at (MemL.below (BW.mono hB) l1 m1) m u hu
      obtain ⟨cs2, f2, M2⟩ := MemL.at (MemL.below (BW.mono hB) l2 m2) m u hu
      have x5 := ((unhide HX0).keep (unhide HBr) (unhide HX0).low).tell.2.2.2.2.2
      have y5 := ((unhide HX1).keep (unhide HBr) (unhide HX1).low).tell.2.2.2.2.2
      have hBr : B ≤ wr.heap.size := Nat.le_trans hB BW.size
      have CB := hide (fun wx (hx : Below wr.heap.size wr wx) => unhide IH' u hum B wx cs1 cs2 (Nat.le_trans hBr hx.size) (M1.below (hx.mono hBr)) (M2.below (hx.mono hBr)))
      obtain ⟨p1, p2, p3, p4, p5, p6, p7, p8, rfl⟩ := M1.form12
      obtain ⟨q1, q2, q3, q4, q5, q6, q7, q8, rfl⟩ := M2.form12
      obtain ⟨d0, d1, d2, d3, d4, d5⟩ := f1.get
      obtain ⟨e0, e1, e2, e3, e4, e5⟩ := f2.get
      clear hu hum hne m1 m2 M1 M2 BW HX0 HX1 HK1 HK2 f1 f2 hmk hBr
      go_wp2_with fail
      go_region_with ((with_reducible refine (unhide CB _ ?_).mono ?_; · exact (by repeat (first | assumption | exact Below.refl _ _ | apply Below.drew))); rintro e w2 ⟨rfl, hb⟩; replace hb : Below wr.heap.size wr w2 := below_via (by repeat (first | assumption | exact Below.refl _ _ | apply Below.drew)) hb)
      all_goals
        have HB2 := hide (below_via (unhide HBr) hb)
        clear hb d0 d1 d2 d3 d4 d5 e0 e1 e2 e3 e4 e5 CB HBr x5 y5
        have hw : IntKind.i64.wrap ((m : Int) + 1) = ((m + 1 : Nat) : Int) := by have := unhide HN; have := unhide HKS; rw [IntKind.wrap_i64]; omega
        go_wp2
        go_roundw
        case rel => exact ⟨m + 1, by omega, by first | rfl | go_num, HB2⟩
        case measure => simp [intOf]; omega
    · obtain rfl : m = n := by omega
      go_wp2
      go_ret
      exact ⟨rfl, below_via (unhide HB0) (unhide HBr)⟩
mutual
theorem sameT_all : ∀ T : Tree, SameT T
  | .mk k y c x t ks => sameT_of k y c x t ks (fun u h => sameT_alls ks u h)
theorem sameT_alls : ∀ (ks : List Tree) (u : Tree), u ∈ ks → SameT u
  | [], u, h => by cases h
  | v :: vs, u, h => by
    by_cases e : u = v
    · rw [e]; exact sameT_all v
    · exact sameT_alls vs u ((List.mem_cons.1 h).resolve_left e)
end
end Go.Proofs.YtnegjbkbfgkkjaaGreatDoor

/- Walks: Same of two tests with one tree. -/
namespace Go.Proofs.YtnegjbkbfgkkjaaGreatDoor
open Go.RowKit Go.MapKept

theorem Mem.shut12 {B : Nat} {w : World} {T : Tree} {a0 a1 a2 a3 a4 a5 : Value} (h : Mem B w T #[a0, a1, a2, a3, a4, a5]) : ∃ (k : Int) (y : Bool) (c x : Int) (t : ByteArray) (a : Option Addr) (n cap : Nat), a0 = .int .i64 k ∧ a1 = .bool y ∧ a2 = .int .i64 c ∧ a3 = .int .i64 x ∧ a4 = .string t ∧ a5 = .slice a n cap := by
  obtain ⟨k, y, c, x, t, a, n, cap, e⟩ := h.form12
  simp at e
  obtain ⟨rfl, rfl, rfl, rfl, rfl, rfl⟩ := e
  exact ⟨_, _, _, _, _, _, _, _, rfl, rfl, rfl, rfl, rfl, rfl⟩
theorem MemS.form12 {B : Nat} {w : World} {T : TS} {cs : Array Value} (h : MemS B w T cs) : ∃ (k : Int) (k1 : Int) (y1 : Bool) (c1 x1 : Int) (t1 : ByteArray) (s1 : Option Addr) (n1 p1 : Nat) (k2 : Int) (y2 : Bool) (c2 x2 : Int) (t2 : ByteArray) (s2 : Option Addr) (n2 p2 : Nat) (oa ob : Bool) (ad : Option Addr) (n cap : Nat), cs = #[.int .i64 k, .int .i64 k1, .bool y1, .int .i64 c1, .int .i64 x1, .string t1, .slice s1 n1 p1, .int .i64 k2, .bool y2, .int .i64 c2, .int .i64 x2, .string t2, .slice s2 n2 p2, .bool oa, .bool ob, .slice ad n cap] := by
  cases T
  rw [MemS] at h
  obtain ⟨_, a0, a1, a2, a3, a4, a5, b0, b1, b2, b3, b4, b5, ad, cap, ha, hb, e, _⟩ := h
  obtain ⟨_, _, _, _, _, _, _, _, rfl, rfl, rfl, rfl, rfl, rfl⟩ := ha.shut12
  obtain ⟨_, _, _, _, _, _, _, _, rfl, rfl, rfl, rfl, rfl, rfl⟩ := hb.shut12
  exact ⟨_, _, _, _, _, _, _, _, _, _, _, _, _, _, _, _, _, _, _, _, _, _, e⟩
def SameQ (T : TS) : Prop := ∀ (B : Nat) (w : World) (u v : Array Value), B ≤ w.heap.size → MemS B w T u → MemS B w T v →
  Calls Tryz.prog 25 #[.agg u, .agg v] w fun e w' => e = .returned (.bool true) ∧ Below w.heap.size w w'

set_option maxRecDepth 100000 in
set_option maxHeartbeats 8000000 in
theorem sameQ_of (k : Int) (TA TB : Tree) (oa ob : Bool) (ks : List TS) (IH : ∀ u ∈ ks, SameQ u) : SameQ (.mk k TA TB oa ob ks) := by
  intro B w u v hB hu hv
  rw [MemS] at hu hv
  obtain ⟨hks, p0, p1, p2, p3, p4, p5, p6, p7, p8, p9, p10, p11, a1, c1, hA1, hB1, rfl, k1⟩ := hu
  obtain ⟨_, q0, q1, q2, q3, q4, q5, q6, q7, q8, q9, q10, q11, a2, c2, hA2, hB2, rfl, k2⟩ := hv
  obtain ⟨p0, p1, p2, p3, p4, pa, pn, pc, rfl, rfl, rfl, rfl, rfl, rfl⟩ := hA1.shut12
  obtain ⟨p6, p7, p8, p9, p10, pb, pm, pd, rfl, rfl, rfl, rfl, rfl, rfl⟩ := hB1.shut12
  obtain ⟨q0, q1, q2, q3, q4, qa, qn, qc, rfl, rfl, rfl, rfl, rfl, rfl⟩ := hA2.shut12
  obtain ⟨q6, q7, q8, q9, q10, qb, qm, qd, rfl, rfl, rfl, rfl, rfl, rfl⟩ := hB2.shut12
  have HK1 := hide k1
  have HK2 := hide k2
  have IH' := hide IH
  obtain ⟨n, hn⟩ : ∃ n, n = ks.length := ⟨_, rfl⟩
  have HN := hide hn
  have HKS := hide hks
  rw [← hn]
  obtain ⟨U1, hU1⟩ : ∃ U1, U1 = (#[.int .i64 k, .int .i64 p0, .bool p1, .int .i64 p2, .int .i64 p3, .string p4, .slice pa pn pc, .int .i64 p6, .bool p7, .int .i64 p8, .int .i64 p9, .string p10, .slice pb pm pd, .bool oa, .bool ob, .slice a1 n c1] : Array Value) := ⟨_, rfl⟩
  obtain ⟨U2, hU2⟩ : ∃ U2, U2 = (#[.int .i64 k, .int .i64 q0, .bool q1, .int .i64 q2, .int .i64 q3, .string q4, .slice qa qn qc, .int .i64 q6, .bool q7, .int .i64 q8, .int .i64 q9, .string q10, .slice qb qm qd, .bool oa, .bool ob, .slice a2 n c2] : Array Value) := ⟨_, rfl⟩
  obtain ⟨W0, hW0⟩ : ∃ W0, W0 = (w.alloc (.cells U1 83)).alloc (.cells U2 83) := ⟨_, rfl⟩
  have B0 : Below w.heap.size w W0 := by rw [hW0]; exact below_via (vbelow_new _ _) (vbelow_new _ _)
  have X0 : B16 W0 w.heap.size U1 := by rw [hW0]; exact B16.new.over
  have X1 : B16 W0 (w.heap.size + 1) U2 := by rw [hW0]; have := B16.new (w := w.alloc (.cells U1 83)) (t := 83) (u := U2); simpa using this
  subst hU1 hU2
  have HB0 := hide B0
  have HX0 := hide X0
  have HX1 := hide X1
  have SA := hide (sameT_all TA B W0 _ _ (Nat.le_trans hB B0.size) (hA1.below (B0.mono hB)) (hA2.below (B0.mono hB)))
  have SB := hide (fun wx (hx : Below w.heap.size w wx) => sameT_all TB B wx _ _ (Nat.le_trans hB hx.size) (hB1.below (hx.mono hB)) (hB2.below (hx.mono hB)))
  obtain ⟨x0, x1, x2, x3, x4, x5, x6, x7, x8, x9, x10, x11, x12, x13, x14, x15⟩ := X0.tell
  obtain ⟨y0, y1, y2, y3, y4, y5, y6, y7, y8, y9, y10, y11, y12, y13, y14, y15⟩ := X1.tell
  have g1 : (k != k) = false := by simp
  have g2 : ((n : Int) != (n : Int)) = false := by simp
  have g3 : (oa != oa) = false := by simp
  have g4 : (ob != ob) = false := by simp
  clear k1 k2 IH B0 X0 X1 hn hks hA1 hA2 hB1 hB2
  go_enter Tryz.func25, Tryz.ntmps25
  go_upto_region 1 with fail
  rw [← hW0]
  clear hW0
  go_wp2_with fail
  refine (unhide SA).mono ?_
  rintro en W1 ⟨rfl, hb1⟩
  have HB1 := hide (below_via (unhide HB0) hb1)
  have HX0' := hide ((unhide HX0).keep hb1 (unhide HX0).low)
  have HX1' := hide ((unhide HX1).keep hb1 (unhide HX1).low)
  clear hb1 SA x0 x1 x2 x3 x4 x5 x6 x7 x8 x9 x10 x11 x12 x13 x14 x15 y0 y1 y2 y3 y4 y5 y6 y7 y8 y9 y10 y11 y12 y13 y14 y15 HB0 HX0 HX1
  obtain ⟨x0, x1, x2, x3, x4, x5, x6, x7, x8, x9, x10, x11, x12, x13, x14, x15⟩ := (unhide HX0').tell
  obtain ⟨y0, y1, y2, y3, y4, y5, y6, y7, y8, y9, y10, y11, y12, y13, y14, y15⟩ := (unhide HX1').tell
  go_wp2_with fail
  refine (unhide SB _ (unhide HB1)).mono ?_
  rintro en W2 ⟨rfl, hb2⟩
  have HB2 := hide (below_via (unhide HB1) hb2)
  have HX0'' := hide ((unhide HX0').keep hb2 (unhide HX0').low)
  have HX1'' := hide ((unhide HX1').keep hb2 (unhide HX1').low)
  clear hb2 SB x0 x1 x2 x3 x4 x5 x6 x7 x8 x9 x10 x11 x12 x13 x14 x15 y0 y1 y2 y3 y4 y5 y6 y7 y8 y9 y10 y11 y12 y13 y14 y15 HB1 HX0' HX1'
  obtain ⟨x0, x1, x2, x3, x4, x5, x6, x7, x8, x9, x10, x11, x12, x13, x14, x15⟩ := (unhide HX0'').tell
  obtain ⟨y0, y1, y2, y3, y4, y5, y6, y7, y8, y9, y10, y11, y12, y13, y14, y15⟩ := (unhide HX1'').tell
  go_wp2_with fail
  go_loopw [53] (fun i wr => ∃ m : Nat, m ≤ n ∧ i = .int .i64 (m : Int) ∧ Hid (Below W2.heap.size W2 wr)) (fun i _ => n - (intOf i).toNat)
  case atStart => exact ⟨0, Nat.zero_le _, rfl, hide (Below.refl _ _)⟩
  case round =>
    obtain ⟨m, hm, rfl, HBr⟩ := hrel
    clear x0 x1 x2 x3 x4 x5 x6 x7 x8 x9 x10 x11 x12 x13 x14 x15 y0 y1 y2 y3 y4 y5 y6 y7 y8 y9 y10 y11 y12 y13 y14 y15
    by_cases hlt2 : m < n
    · have hi1 : (m : Int) < (n : Int) := by omega
      have hmk : m < ks.length := by rw [← unhide HN]; exact hlt2
      obtain ⟨u, hu⟩ : ∃ u, ks[m]? = some u := ⟨_, List.getElem?_eq_getElem hmk⟩
      have hum := List.mem_of_getElem? hu
      have hne : ks ≠ [] := by intro e; rw [e] at hmk; simp at hmk
      obtain ⟨b1, o1, rfl, l1, m1⟩ := unhide HK1 hne
      obtain ⟨b2, o2, rfl, l2, m2⟩ := unhide HK2 hne
      have BW : Below w.heap.size w wr := below_via (unhide HB2) (unhide HBr)
      obtain ⟨cs1, f1, M1⟩ := MemSL.at (MemSL.below (BW.mono hB) l1 m1) m u hu
      obtain ⟨cs2, f2, M2⟩ := MemSL.at (MemSL.below (BW.mono hB) l2 m2) m u hu
      have x3 := ((unhide HX0'').keep (unhide HBr) (unhide HX0'').low).cell 15 _ rfl
      have y3 := ((unhide HX1'').keep (unhide HBr) (unhide HX1'').low).cell 15 _ rfl
      have hBr : B ≤ wr.heap.size := Nat.le_trans hB BW.size
      have CB := hide (fun wx (hx : Below wr.heap.size wr wx) => unhide IH' u hum B wx cs1 cs2 (Nat.le_trans hBr hx.size) (M1.below (hx.mono hBr)) (M2.below (hx.mono hBr)))
      obtain ⟨f01, f02, f03, f04, f05, f06, f07, f08, f09, f10, f11, f12, f13, f14, f15, f16, f17, f18, f19, f20, f21, f22, rfl⟩ := M1.form12
      obtain ⟨h01, h02, h03, h04, h05, h06, h07, h08, h09, h10, h11, h12, h13, h14, h15, h16, h17, h18, h19, h20, h21, h22, rfl⟩ := M2.form12
      obtain ⟨d0, d1, d2, d3, d4, d5, d6, d7, d8, d9, d10, d11, d12, d13, d14, d15⟩ := f1.tell
      obtain ⟨e0, e1, e2, e3, e4, e5, e6, e7, e8, e9, e10, e11, e12, e13, e14, e15⟩ := f2.tell
      clear hu hum hne m1 m2 M1 M2 BW HX0'' HX1'' HK1 HK2 f1 f2 hmk hBr
      go_wp2_with fail
      go_region_with ((with_reducible refine (unhide CB _ ?_).mono ?_; · exact (by repeat (first | assumption | exact Below.refl _ _ | apply Below.drew))); rintro e w2 ⟨rfl, hb⟩; replace hb : Below wr.heap.size wr w2 := below_via (by repeat (first | assumption | exact Below.refl _ _ | apply Below.drew)) hb)
      all_goals
        have HB3 := hide (below_via (unhide HBr) hb)
        clear hb d0 d1 d2 d3 d4 d5 d6 d7 d8 d9 d10 d11 d12 d13 d14 d15 e0 e1 e2 e3 e4 e5 e6 e7 e8 e9 e10 e11 e12 e13 e14 e15 CB HBr x3 y3
        have hw : IntKind.i64.wrap ((m : Int) + 1) = ((m + 1 : Nat) : Int) := by have := unhide HN; have := unhide HKS; rw [IntKind.wrap_i64]; omega
        go_wp2
        go_roundw
        case rel => exact ⟨m + 1, by omega, by first | rfl | go_num, HB3⟩
        case measure => simp [intOf]; omega
    · obtain rfl : m = n := by omega
      go_wp2
      go_ret
      exact ⟨rfl, below_via (unhide HB2) (unhide HBr)⟩
mutual
theorem sameQ_all : ∀ T : TS, SameQ T
  | .mk k a b oa ob ks => sameQ_of k a b oa ob ks (fun u h => sameQ_alls ks u h)
theorem sameQ_alls : ∀ (ks : List TS) (u : TS), u ∈ ks → SameQ u
  | [], u, h => by cases h
  | v :: vs, u, h => by
    by_cases e : u = v
    · rw [e]; exact sameQ_all v
    · exact sameQ_alls vs u ((List.mem_cons.1 h).resolve_left e)
end
end Go.Proofs.YtnegjbkbfgkkjaaGreatDoor

/- Walks: Same of two expressions with one tree. -/
namespace Go.Proofs.YtnegjbkbfgkkjaaGreatDoor
open Go.RowKit Go.MapKept

theorem Nine.get12 {w : World} {b o : Nat} {v0 v1 v2 v3 v4 v5 v6 v7 v8 : Value} (h : Nine w b o #[v0, v1, v2, v3, v4, v5, v6, v7, v8]) : w.cell? ⟨b, o, none⟩ = some v0 ∧ w.cell? ⟨b, o + 1, none⟩ = some v1 ∧ w.cell? ⟨b, o + 2, none⟩ = some v2 ∧ w.cell? ⟨b, o + 3, none⟩ = some v3 ∧ w.cell? ⟨b, o + 4, none⟩ = some v4 ∧ w.cell? ⟨b, o + 5, none⟩ = some v5 ∧ w.cell? ⟨b, o + 6, none⟩ = some v6 ∧ w.cell? ⟨b, o + 7, none⟩ = some v7 ∧ w.cell? ⟨b, o + 8, none⟩ = some v8 := by
  obtain ⟨u0, u1, u2, u3, u4, u5, u6, u7, u8, hu, c0, c1, c2, c3, c4, c5, c6, c7, c8⟩ := h
  simp only [Array.mk.injEq, List.cons.injEq, and_true] at hu
  obtain ⟨rfl, rfl, rfl, rfl, rfl, rfl, rfl, rfl, rfl⟩ := hu
  exact ⟨c0, c1, c2, c3, c4, c5, c6, c7, c8⟩
def SameE (T : XT) : Prop := ∀ (B : Nat) (w : World) (u v : Array Value), B ≤ w.heap.size → XMem B w T u → XMem B w T v →
  Calls Tryz.prog 26 #[.agg u, .agg v] w fun e w' => e = .returned (.bool true) ∧ Below w.heap.size w w'

set_option maxRecDepth 100000 in
set_option maxHeartbeats 8000000 in
theorem sameE_of (k : Int) (V : Tree) (s : ByteArray) (ks : List XT) (IH : ∀ u ∈ ks, SameE u) : SameE (.mk k V s ks) := by
  intro B w u v hB hu hv
  rw [XMem] at hu hv
  obtain ⟨_, hks, vk, vy, vc, vx, vt, va, vn, vp, a1, c1, rfl, hV1, k1⟩ := hu
  obtain ⟨_, _, uk, uy, uc, ux, ut, ua, un, up, a2, c2, rfl, hV2, k2⟩ := hv
  have HK1 := hide k1
  have HK2 := hide k2
  have IH' := hide IH
  obtain ⟨n, hn⟩ : ∃ n, n = ks.length := ⟨_, rfl⟩
  have HN := hide hn
  have HKS := hide hks
  rw [← hn]
  obtain ⟨W0, hW0⟩ : ∃ W0, W0 = (w.alloc (.cells #[.int .i64 k, .int .i64 vk, .bool vy, .int .i64 vc, .int .i64 vx, .string vt, .slice va vn vp, .string s, .slice a1 n c1] 86)).alloc (.cells #[.int .i64 k, .int .i64 uk, .bool uy, .int .i64 uc, .int .i64 ux, .string ut, .slice ua un up, .string s, .slice a2 n c2] 86) := ⟨_, rfl⟩
  have B0 : Below w.heap.size w W0 := by rw [hW0]; exact below_via (vbelow_new _ _) (vbelow_new _ _)
  have X0 : V9 W0 w.heap.size (.int .i64 k) (.int .i64 vk) (.bool vy) (.int .i64 vc) (.int .i64 vx) (.string vt) (.slice va vn vp) (.string s) (.slice a1 n c1) := by rw [hW0]; exact (V9.new w 86 _ _ _ _ _ _ _ _ _).keep (vbelow_new _ _) (by simp)
  have X1 : V9 W0 (w.heap.size + 1) (.int .i64 k) (.int .i64 uk) (.bool uy) (.int .i64 uc) (.int .i64 ux) (.string ut) (.slice ua un up) (.string s) (.slice a2 n c2) := by
    have := V9.new (w.alloc (.cells #[.int .i64 k, .int .i64 vk, .bool vy, .int .i64 vc, .int .i64 vx, .string vt, .slice va vn vp, .string s, .slice a1 n c1] 86)) 86 (.int .i64 k) (.int .i64 uk) (.bool uy) (.int .i64 uc) (.int .i64 ux) (.string ut) (.slice ua un up) (.string s) (.slice a2 n c2)
    rw [hW0]
    simpa using this
  have HB0 := hide B0
  have HX0 := hide X0
  have HX1 := hide X1
  have SV := hide (sameT_all V B W0 _ _ (Nat.le_trans hB B0.size) (hV1.below (B0.mono hB)) (hV2.below (B0.mono hB)))
  obtain ⟨x0, x1, x2, x3, x4, x5, x6, x7, x8⟩ := X0.tell
  obtain ⟨y0, y1, y2, y3, y4, y5, y6, y7, y8⟩ := X1.tell
  have g1 : (k != k) = false := by simp
  have g2 : ((n : Int) != (n : Int)) = false := by simp
  clear k1 k2 IH B0 X0 X1 hn hks hV1 hV2
  go_enter Tryz.func26, Tryz.ntmps26
  go_upto_region 1 with fail
  rw [← hW0]
  clear hW0
  go_wp2_with fail
  refine (unhide SV).mono ?_
  rintro en W1 ⟨rfl, hb1⟩
  have HB1 := hide (below_via (unhide HB0) hb1)
  have HX0' := hide ((unhide HX0).keep hb1 (unhide HX0).low)
  have HX1' := hide ((unhide HX1).keep hb1 (unhide HX1).low)
  have z8 := (unhide HX0').tell.2.2.2.2.2.2.2.2
  have t8 := (unhide HX1').tell.2.2.2.2.2.2.2.2
  clear hb1 SV x0 x1 x2 x3 x4 x5 x6 x7 x8 y0 y1 y2 y3 y4 y5 y6 y7 y8 HB0 HX0 HX1
  go_wp2_with fail
  go_loopw [38] (fun i wr => ∃ m : Nat, m ≤ n ∧ i = .int .i64 (m : Int) ∧ Hid (Below W1.heap.size W1 wr)) (fun i _ => n - (intOf i).toNat)
  case atStart => exact ⟨0, Nat.zero_le _, rfl, hide (Below.refl _ _)⟩
  case round =>
    obtain ⟨m, hm, rfl, HBr⟩ := hrel
    clear z8 t8
    by_cases hlt2 : m < n
    · have hi1 : (m : Int) < (n : Int) := by omega
      have hmk : m < ks.length := by rw [← unhide HN]; exact hlt2
      obtain ⟨u, hu⟩ : ∃ u, ks[m]? = some u := ⟨_, List.getElem?_eq_getElem hmk⟩
      have hum := List.mem_of_getElem? hu
      have hne : ks ≠ [] := by intro e; rw [e] at hmk; simp at hmk
      obtain ⟨b1, o1, rfl, l1, m1⟩ := unhide HK1 hne
      obtain ⟨b2, o2, rfl, l2, m2⟩ := unhide HK2 hne
      have BW : Below w.heap.size w wr := below_via (unhide HB1) (unhide HBr)
      obtain ⟨cs1, f1, M1⟩ := XMemL.at (XMemL.below (BW.mono hB) l1 m1) m u hu
      obtain ⟨cs2, f2, M2⟩ := XMemL.at (XMemL.below (BW.mono hB) l2 m2) m u hu
      have x3 := ((unhide HX0').keep (unhide HBr) (unhide HX0').low).tell.2.2.2.2.2.2.2.2
      have y3 := ((unhide HX1').keep (unhide HBr) (unhide HX1').low).tell.2.2.2.2.2.2.2.2
      have hBr : B ≤ wr.heap.size := Nat.le_trans hB BW.size
      have CB := hide (fun wx (hx : Below wr.heap.size wr wx) => unhide IH' u hum B wx cs1 cs2 (Nat.le_trans hBr hx.size) (M1.below (hx.mono hBr)) (M2.below (hx.mono hBr)))
      obtain ⟨p1, p2, p3, p4, p5, p6, p7, p8, p9, p10, p11, p12, p13, rfl⟩ := M1.form
      obtain ⟨q1, q2, q3, q4, q5, q6, q7, q8, q9, q10, q11, q12, q13, rfl⟩ := M2.form
      obtain ⟨d0, d1, d2, d3, d4, d5, d6, d7, d8⟩ := f1.get12
      obtain ⟨e0, e1, e2, e3, e4, e5, e6, e7, e8⟩ := f2.get12
      clear hu hum hne m1 m2 M1 M2 BW HX0' HX1' HK1 HK2 f1 f2 hmk hBr
      go_wp2_with fail
      go_region_with ((with_reducible refine (unhide CB _ ?_).mono ?_; · exact (by repeat (first | assumption | exact Below.refl _ _ | apply Below.drew))); rintro e w2 ⟨rfl, hb⟩; replace hb : Below wr.heap.size wr w2 := below_via (by repeat (first | assumption | exact Below.refl _ _ | apply Below.drew)) hb)
      all_goals
        have HB2 := hide (below_via (unhide HBr) hb)
        clear hb d0 d1 d2 d3 d4 d5 d6 d7 d8 e0 e1 e2 e3 e4 e5 e6 e7 e8 CB HBr x3 y3
        have hw : IntKind.i64.wrap ((m : Int) + 1) = ((m + 1 : Nat) : Int) := by have := unhide HN; have := unhide HKS; rw [IntKind.wrap_i64]; omega
        go_wp2
        go_roundw
        case rel => exact ⟨m + 1, by omega, by first | rfl | go_num, HB2⟩
        case measure => simp [intOf]; omega
    · obtain rfl : m = n := by omega
      go_wp2
      go_ret
      exact ⟨rfl, below_via (unhide HB1) (unhide HBr)⟩
mutual
theorem sameE_all : ∀ T : XT, SameE T
  | .mk k V s ks => sameE_of k V s ks (fun u h => sameE_alls ks u h)
theorem sameE_alls : ∀ (ks : List XT) (u : XT), u ∈ ks → SameE u
  | [], u, h => by cases h
  | v :: vs, u, h => by
    by_cases e : u = v
    · rw [e]; exact sameE_all v
    · exact sameE_alls vs u ((List.mem_cons.1 h).resolve_left e)
end
end Go.Proofs.YtnegjbkbfgkkjaaGreatDoor
