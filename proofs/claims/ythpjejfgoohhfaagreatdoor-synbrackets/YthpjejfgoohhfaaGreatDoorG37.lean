/- Walks: Same of two values without a list. -/
import Derived.Test.YthpjejfgoohhfaaGreatDoorG36
import Derived.Test.YthpjejfgoohhfaaGreatDoorG35
namespace Go.Proofs.YthpjejfgoohhfaaGreatDoor
open Go.RowKit Go.MapKept

set_option maxRecDepth 100000 in
set_option maxHeartbeats 4000000 in
theorem sameV_any (vk : Int) (vy : Bool) (vc vx : Int) (vt : ByteArray) (w : World) :
    Calls Tryz.prog 19 #[.agg #[.int .i64 vk, .bool vy, .int .i64 vc, .int .i64 vx, .string vt, .slice none 0 0], .agg #[.int .i64 vk, .bool vy, .int .i64 vc, .int .i64 vx, .string vt, .slice none 0 0]] w fun e w' => e = .returned (.bool true) ∧ Below w.heap.size w w' := by
  obtain ⟨W0, hW0⟩ : ∃ W0, W0 = (w.alloc (.cells #[.int .i64 vk, .bool vy, .int .i64 vc, .int .i64 vx, .string vt, .slice none 0 0] 26)).alloc (.cells #[.int .i64 vk, .bool vy, .int .i64 vc, .int .i64 vx, .string vt, .slice none 0 0] 26) := ⟨_, rfl⟩
  have B0 : Below w.heap.size w W0 := by rw [hW0]; exact below_via (vbelow_new _ _) (vbelow_new _ _)
  have X0 : V6 W0 w.heap.size (.int .i64 vk) (.bool vy) (.int .i64 vc) (.int .i64 vx) (.string vt) (.slice none 0 0) := by rw [hW0]; exact (V6.new w 26 _ _ _ _ _ _).keep (vbelow_new _ _) (by simp)
  have X1 : V6 W0 (w.heap.size + 1) (.int .i64 vk) (.bool vy) (.int .i64 vc) (.int .i64 vx) (.string vt) (.slice none 0 0) := by rw [hW0]; have := V6.new (w.alloc (.cells #[.int .i64 vk, .bool vy, .int .i64 vc, .int .i64 vx, .string vt, .slice none 0 0] 26)) 26 (.int .i64 vk) (.bool vy) (.int .i64 vc) (.int .i64 vx) (.string vt) (.slice none 0 0); simpa using this
  obtain ⟨x0, x1, x2, x3, x4, x5⟩ := X0.tell
  obtain ⟨y0, y1, y2, y3, y4, y5⟩ := X1.tell
  have HB0 := hide B0
  clear B0 X0 X1
  have g1 : (vk != vk) = false := by simp
  have g2 : (vy != vy) = false := by simp
  go_enter Tryz.func19, Tryz.ntmps19
  go_upto_region 1 with fail
  rw [← hW0]
  clear hW0
  go_wp2_with fail
  go_loopw [44] (fun i wr => i = .int .i64 0 ∧ wr = W0) (fun _ _ => 0)
  case atStart => exact ⟨rfl, rfl⟩
  case round =>
    obtain ⟨rfl, rfl⟩ := hrel
    go_wp2
    go_ret
    exact ⟨rfl, unhide HB0⟩
end Go.Proofs.YthpjejfgoohhfaaGreatDoor

/- Walks: Same of two expressions that were read. -/
namespace Go.Proofs.YthpjejfgoohhfaaGreatDoor
open Go.RowKit Go.MapKept

theorem XBL.atX {P : Nat → Prop} {w : World} : ∀ {ks : List XT} {b off : Nat}, XBL P w ks b off → ∀ (m : Nat) (u : XT), ks[m]? = some u → ∃ cs, Nine w b (off + m * 9) cs ∧ XB P w u cs
  | [], _, _, _, m, u, h => by simp at h
  | x :: xs, b, off, h, m, u, hu => by
    rw [XBL] at h
    match m, hu with
    | 0, hu =>
      simp at hu
      subst hu
      simpa using h.1
    | m + 1, hu =>
      obtain ⟨cs, h1, h2⟩ := XBL.atX h.2 m u (by simpa using hu)
      exact ⟨cs, by rw [show off + (m + 1) * 9 = off + 9 + m * 9 by omega]; exact h1, h2⟩
theorem Nine.get {w : World} {b o : Nat} {v0 v1 v2 v3 v4 v5 v6 v7 v8 : Value} (h : Nine w b o #[v0, v1, v2, v3, v4, v5, v6, v7, v8]) : w.cell? ⟨b, o, none⟩ = some v0 ∧ w.cell? ⟨b, o + 1, none⟩ = some v1 ∧ w.cell? ⟨b, o + 2, none⟩ = some v2 ∧ w.cell? ⟨b, o + 3, none⟩ = some v3 ∧ w.cell? ⟨b, o + 4, none⟩ = some v4 ∧ w.cell? ⟨b, o + 5, none⟩ = some v5 ∧ w.cell? ⟨b, o + 6, none⟩ = some v6 ∧ w.cell? ⟨b, o + 7, none⟩ = some v7 ∧ w.cell? ⟨b, o + 8, none⟩ = some v8 := by
  obtain ⟨u0, u1, u2, u3, u4, u5, u6, u7, u8, hu, c0, c1, c2, c3, c4, c5, c6, c7, c8⟩ := h
  simp only [Array.mk.injEq, List.cons.injEq, and_true] at hu
  obtain ⟨rfl, rfl, rfl, rfl, rfl, rfl, rfl, rfl, rfl⟩ := hu
  exact ⟨c0, c1, c2, c3, c4, c5, c6, c7, c8⟩

def SameX (T : XT) : Prop := ∀ (w : World) (u v : Array Value), XB (fun _ => True) w T u → XB (fun _ => True) w T v →
  Calls Tryz.prog 8 #[.agg u, .agg v] w fun e w' => e = .returned (.bool true) ∧ Below w.heap.size w w'

set_option maxRecDepth 100000 in
set_option maxHeartbeats 8000000 in
theorem sameX_of (k : Int) (V : Tree) (s : ByteArray) (ks : List XT) (IH : ∀ u ∈ ks, SameX u) : SameX (.mk k V s ks) := by
  intro w u v hu hv
  rw [XB] at hu hv
  obtain ⟨_, hks, vk, vy, vc, vx, vt, a1, c1, rfl, rfl, _, k1⟩ := hu
  obtain ⟨_, _, vk2, vy2, vc2, vx2, vt2, a2, c2, rfl, hV, _, k2⟩ := hv
  obtain ⟨rfl, rfl, rfl, rfl, rfl⟩ : vk = vk2 ∧ vy = vy2 ∧ vc = vc2 ∧ vx = vx2 ∧ vt = vt2 := by cases hV; exact ⟨rfl, rfl, rfl, rfl, rfl⟩
  have HK1 := hide k1
  have HK2 := hide k2
  have IH' := hide IH
  obtain ⟨n, hn⟩ : ∃ n, n = ks.length := ⟨_, rfl⟩
  have HN := hide hn
  have HKS := hide hks
  rw [← hn]
  obtain ⟨W0, hW0⟩ : ∃ W0, W0 = (w.alloc (.cells #[.int .i64 k, .int .i64 vk, .bool vy, .int .i64 vc, .int .i64 vx, .string vt, .slice none 0 0, .string s, .slice a1 n c1] 29)).alloc (.cells #[.int .i64 k, .int .i64 vk, .bool vy, .int .i64 vc, .int .i64 vx, .string vt, .slice none 0 0, .string s, .slice a2 n c2] 29) := ⟨_, rfl⟩
  have B0 : Below w.heap.size w W0 := by rw [hW0]; exact below_via (vbelow_new _ _) (vbelow_new _ _)
  have X0 : V9 W0 w.heap.size (.int .i64 k) (.int .i64 vk) (.bool vy) (.int .i64 vc) (.int .i64 vx) (.string vt) (.slice none 0 0) (.string s) (.slice a1 n c1) := by rw [hW0]; exact (V9.new w 29 _ _ _ _ _ _ _ _ _).keep (vbelow_new _ _) (by simp)
  have X1 : V9 W0 (w.heap.size + 1) (.int .i64 k) (.int .i64 vk) (.bool vy) (.int .i64 vc) (.int .i64 vx) (.string vt) (.slice none 0 0) (.string s) (.slice a2 n c2) := by
    have := V9.new (w.alloc (.cells #[.int .i64 k, .int .i64 vk, .bool vy, .int .i64 vc, .int .i64 vx, .string vt, .slice none 0 0, .string s, .slice a1 n c1] 29)) 29 (.int .i64 k) (.int .i64 vk) (.bool vy) (.int .i64 vc) (.int .i64 vx) (.string vt) (.slice none 0 0) (.string s) (.slice a2 n c2)
    rw [hW0]
    simpa using this
  have HB0 := hide B0
  have HX0 := hide X0
  have HX1 := hide X1
  have SV := hide (sameV_any vk vy vc vx vt W0)
  obtain ⟨x0, x1, x2, x3, x4, x5, x6, x7, x8⟩ := X0.tell
  obtain ⟨y0, y1, y2, y3, y4, y5, y6, y7, y8⟩ := X1.tell
  have g1 : (k != k) = false := by simp
  have g2 : ((n : Int) != (n : Int)) = false := by simp
  clear k1 k2 IH B0 X0 X1 hn hks hV
  go_enter Tryz.func8, Tryz.ntmps8
  go_upto_region 1 with fail
  rw [← hW0]
  clear hW0
  go_wp2_with fail
  refine (unhide SV).mono ?_
  rintro en W1 ⟨rfl, hb1⟩
  have HB1 := hide (below_via (unhide HB0) hb1)
  have HX0' := hide ((unhide HX0).keep hb1 (unhide HX0).low)
  have HX1' := hide ((unhide HX1).keep hb1 (unhide HX1).low)
  have z8 := (unhide HX0').tell.2.2.2.2.2.2.2.2
  have t8 := (unhide HX1').tell.2.2.2.2.2.2.2.2
  clear hb1 SV x0 x1 x2 x3 x4 x5 x6 x7 x8 y0 y1 y2 y3 y4 y5 y6 y7 y8 HB0 HX0 HX1
  go_wp2_with fail
  go_loopw [38] (fun i wr => ∃ m : Nat, m ≤ n ∧ i = .int .i64 (m : Int) ∧ Hid (Below W1.heap.size W1 wr)) (fun i _ => n - (intOf i).toNat)
  case atStart => exact ⟨0, Nat.zero_le _, rfl, hide (Below.refl _ _)⟩
  case round =>
    obtain ⟨m, hm, rfl, HBr⟩ := hrel
    clear z8 t8
    by_cases hlt2 : m < n
    · have hi1 : (m : Int) < (n : Int) := by omega
      have hmk : m < ks.length := by rw [← unhide HN]; exact hlt2
      obtain ⟨u, hu⟩ : ∃ u, ks[m]? = some u := ⟨_, List.getElem?_eq_getElem hmk⟩
      have hum := List.mem_of_getElem? hu
      have hne : ks ≠ [] := by intro e; rw [e] at hmk; simp at hmk
      obtain ⟨b1, o1, rfl, l1, _, m1⟩ := unhide HK1 hne
      obtain ⟨b2, o2, rfl, l2, _, m2⟩ := unhide HK2 hne
      have BW : Below w.heap.size w wr := below_via (unhide HB1) (unhide HBr)
      have st := fun (b : Nat) (hb : b < w.heap.size) (_ : True) => BW.block b hb
      obtain ⟨cs1, f1, M1⟩ := XBL.atX (XBL.stay (P := fun _ => True) BW.size st l1 trivial m1) m u hu
      obtain ⟨cs2, f2, M2⟩ := XBL.atX (XBL.stay (P := fun _ => True) BW.size st l2 trivial m2) m u hu
      have x3 := ((unhide HX0').keep (unhide HBr) (unhide HX0').low).tell.2.2.2.2.2.2.2.2
      have y3 := ((unhide HX1').keep (unhide HBr) (unhide HX1').low).tell.2.2.2.2.2.2.2.2
      have CB := hide (fun wx (hx : Below wr.heap.size wr wx) => unhide IH' u hum wx cs1 cs2 (M1.keep hx) (M2.keep hx))
      obtain ⟨p1, p2, p3, p4, p5, p6, p7, p8, p9, p10, p11, p12, p13, rfl⟩ := M1.form
      obtain ⟨q1, q2, q3, q4, q5, q6, q7, q8, q9, q10, q11, q12, q13, rfl⟩ := M2.form
      obtain ⟨d0, d1, d2, d3, d4, d5, d6, d7, d8⟩ := f1.get
      obtain ⟨e0, e1, e2, e3, e4, e5, e6, e7, e8⟩ := f2.get
      clear hu hum hne m1 m2 M1 M2 BW st HX0' HX1' HK1 HK2 f1 f2 hmk
      go_wp2_with fail
      go_region_with ((with_reducible refine (unhide CB _ ?_).mono ?_; · exact (by repeat (first | assumption | exact Below.refl _ _ | apply Below.drew))); rintro e w2 ⟨rfl, hb⟩; replace hb : Below wr.heap.size wr w2 := below_via (by repeat (first | assumption | exact Below.refl _ _ | apply Below.drew)) hb)
      all_goals
        have HB2 := hide (below_via (unhide HBr) hb)
        clear hb d0 d1 d2 d3 d4 d5 d6 d7 d8 e0 e1 e2 e3 e4 e5 e6 e7 e8 CB HBr x3 y3
        have hw : IntKind.i64.wrap ((m : Int) + 1) = ((m + 1 : Nat) : Int) := by have := unhide HN; have := unhide HKS; rw [IntKind.wrap_i64]; omega
        go_wp2
        go_roundw
        case rel => exact ⟨m + 1, by omega, by first | rfl | go_num, HB2⟩
        case measure => simp [intOf]; omega
    · obtain rfl : m = n := by omega
      go_wp2
      go_ret
      exact ⟨rfl, below_via (unhide HB1) (unhide HBr)⟩
mutual
theorem sameX_all : ∀ T : XT, SameX T
  | .mk k V s ks => sameX_of k V s ks (fun u h => sameX_alls ks u h)
theorem sameX_alls : ∀ (ks : List XT) (u : XT), u ∈ ks → SameX u
  | [], u, h => by cases h
  | v :: vs, u, h => by
    by_cases e : u = v
    · rw [e]; exact sameX_all v
    · exact sameX_alls vs u ((List.mem_cons.1 h).resolve_left e)
end
end Go.Proofs.YthpjejfgoohhfaaGreatDoor

/- What Read tells of the text that the laws ask first (plain). -/
namespace Go.Proofs.YthpjejfgoohhfaaGreatDoor
open Go.RowKit Go.MapKept

def aliveX : XT := .mk 4 emptyV ⟨#[]⟩ [.mk 1 (.mk 3 false 1 0 ⟨#[]⟩ []) ⟨#[]⟩ [], .mk 6 emptyV ⟨#[]⟩ [.mk 2 emptyV ⟨#[97]⟩ [], .mk 1 (.mk 3 false 2 0 ⟨#[]⟩ []) ⟨#[]⟩ []]]
theorem alive_read : readF [49, 32, 43, 32, 97, 32, 42, 32, 50] = (0, aliveX) := by kernel_rfl
end Go.Proofs.YthpjejfgoohhfaaGreatDoor

/- Walks: alive (verdictlaw4). -/
namespace Go.Proofs.YthpjejfgoohhfaaGreatDoor
open Go.RowKit Go.MapKept

set_option maxRecDepth 100000 in
set_option maxHeartbeats 8000000 in
theorem alive4_any (w : World) (hE : RE w) : Calls Tryz.prog 5 #[] w fun e w' => e = .returned (.bool true) ∧ Below w.heap.size w w' := by
  have C := hide (read_any ⟨#[49, 32, 43, 32, 97, 32, 42, 32, 50]⟩ w hE)
  have er : readF (⟨#[49, 32, 43, 32, 97, 32, 42, 32, 50]⟩ : ByteArray).data.toList = (0, aliveX) := alive_read
  rw [er] at C
  clear hE er
  go_enter Tryz.func5, Tryz.ntmps5
  go_wp2_with fail
  refine (unhide C).mono ?_
  rintro en w1 ⟨hb, cs, at', rfl, h9, hx⟩
  have hx := hx rfl
  simp only at hx
  unfold aliveX at hx
  rw [XB] at hx
  obtain ⟨_, _, vk, vy, vc, vx, vt, a, cap, rfl, _, _, hk⟩ := hx
  obtain ⟨b, off, rfl, lb, _, hm⟩ := hk (by simp)
  obtain ⟨cs2, f2, M2⟩ := XBL.atX hm 1 _ rfl
  rw [XB] at M2
  obtain ⟨_, _, wk, wy, wc, wx, wt, a2, cap2, rfl, _, _, _⟩ := M2
  obtain ⟨d0, d1, d2, d3, d4, d5, d6, d7, d8⟩ := f2.get
  obtain ⟨w2, hw2⟩ : ∃ w2, w2 = (w1.alloc (.cells #[.int .i64 4, .int .i64 vk, .bool vy, .int .i64 vc, .int .i64 vx, .string vt, .slice none 0 0, .string ⟨#[]⟩, .slice (some ⟨b, off, none⟩) 2 cap] 29)).alloc (.cells #[.int .i64 0, .int .i64 at'] 35) := ⟨_, rfl⟩
  have B2 : Below w1.heap.size w1 w2 := by rw [hw2]; exact below_via (vbelow_new _ _) (vbelow_new _ _)
  have X2 : V9 w2 w1.heap.size (.int .i64 4) (.int .i64 vk) (.bool vy) (.int .i64 vc) (.int .i64 vx) (.string vt) (.slice none 0 0) (.string ⟨#[]⟩) (.slice (some ⟨b, off, none⟩) 2 cap) := by rw [hw2]; exact (V9.new w1 29 _ _ _ _ _ _ _ _ _).keep (vbelow_new _ _) (by simp)
  have F2 : Bx2 w2 (w1.heap.size + 1) (.int .i64 0) (.int .i64 at') := by rw [hw2]; have := Bx2.new (w1.alloc (.cells #[.int .i64 4, .int .i64 vk, .bool vy, .int .i64 vc, .int .i64 vx, .string vt, .slice none 0 0, .string ⟨#[]⟩, .slice (some ⟨b, off, none⟩) 2 cap] 29)) 35 (.int .i64 0) (.int .i64 at'); simpa using this
  have q0 : w2.cell? ⟨b, off + 9, none⟩ = some (.int .i64 6) := (B2.cell (p := ⟨b, off + 9, none⟩) lb).trans (by simpa using d0)
  obtain ⟨x0, x1, x2, x3, x4, x5, x6, x7, x8⟩ := X2.tell
  have f0 := F2.at0
  have HB := hide (below_via hb B2)
  clear hm hk lb d0 d1 d2 d3 d4 d5 d6 d7 d8 f2 hb B2 X2 F2 C h9
  go_upto_region 2 with fail
  rw [← hw2]
  clear hw2
  go_wp2
  go_ret
  exact ⟨rfl, unhide HB⟩
end Go.Proofs.YthpjejfgoohhfaaGreatDoor

/- Walks: SynBrackets (verdictlaw4). -/
namespace Go.Proofs.YthpjejfgoohhfaaGreatDoor
open Go.RowKit Go.MapKept

theorem br_bytes (s : ByteArray) : ((⟨#[32, 40]⟩ : ByteArray) ++ s ++ ⟨#[41, 10]⟩).data.toList = 32 :: 40 :: (s.data.toList ++ [41, 10]) := by simp

set_option maxRecDepth 100000 in
set_option maxHeartbeats 16000000 in
theorem brackets_walk (s : ByteArray) (w : World) (hE : RE w) : Calls Tryz.prog 4 #[.string s] w fun e w' => e = .returned (.bool true) ∧ Below w.heap.size w w' := by
  have AL := hide (alive4_any w hE)
  have RD1 := hide (fun wx (hb : Below w.heap.size w wx) => read_any s wx (hE.keep hb))
  have RD2 := hide (fun wx (hb : Below w.heap.size w wx) => read_any ((⟨#[32, 40]⟩ : ByteArray) ++ s ++ ⟨#[41, 10]⟩) wx (hE.keep hb))
  rw [br_bytes] at RD2
  obtain ⟨f1, hf1⟩ : ∃ f, f = readF s.data.toList := ⟨_, rfl⟩
  obtain ⟨f2, hf2⟩ : ∃ f, f = readF (32 :: 40 :: (s.data.toList ++ [41, 10])) := ⟨_, rfl⟩
  have HBR : Hid (f1.1 = 0 → s.size + 4 ≤ 4000 → f2 = (0, f1.2) ∨ f2.1 = 4) := hide (fun h hl => by
    rw [hf2, hf1]
    rw [hf1] at h
    exact read_br h (by rw [← Lib.size_eq]; exact hl))
  have HLN : Hid (f1.1 = 0 → s.size ≤ 4000) := hide (fun h => by
    rw [hf1] at h
    have ht : (toksF s.data.toList).2.1 = 0 := by
      by_cases q : (toksF s.data.toList).2.1 = 0
      · exact q
      · rw [readF, if_pos q] at h
        exact h
    rw [Lib.size_eq]
    exact (Pp.toksF_valid ht).1)
  rw [← hf1] at RD1
  rw [← hf2] at RD2
  clear hf1 hf2 hE
  obtain ⟨c1, X1⟩ := f1
  obtain ⟨c2, X2⟩ := f2
  simp only at HBR HLN
  go_enter Tryz.func4, Tryz.ntmps4
  go_wp2_with fail
  refine (unhide AL).mono ?_
  rintro en w1 ⟨rfl, hb1⟩
  have HB1 := hide hb1
  clear hb1 AL
  go_wp2_with fail
  refine (unhide RD1 w1 (unhide HB1)).mono ?_
  rintro en w2 ⟨hb2, cs, at', rfl, h9, hx1⟩
  obtain ⟨k, vk, vy, vc, vx, vt, va, vn, vp, ss, xa, xn, xc, rfl⟩ := h9
  simp only at hx1 ⊢
  obtain ⟨w3, hw3⟩ : ∃ w3, w3 = (w2.alloc (.cells #[.int .i64 k, .int .i64 vk, .bool vy, .int .i64 vc, .int .i64 vx, .string vt, .slice va vn vp, .string ss, .slice xa xn xc] 29)).alloc (.cells #[.int .i64 c1, .int .i64 at'] 35) := ⟨_, rfl⟩
  have B3 : Below w2.heap.size w2 w3 := by rw [hw3]; exact below_via (vbelow_new _ _) (vbelow_new _ _)
  have V3 : V9 w3 w2.heap.size (.int .i64 k) (.int .i64 vk) (.bool vy) (.int .i64 vc) (.int .i64 vx) (.string vt) (.slice va vn vp) (.string ss) (.slice xa xn xc) := by rw [hw3]; exact (V9.new w2 29 _ _ _ _ _ _ _ _ _).keep (vbelow_new _ _) (by simp)
  have F3 : Bx2 w3 (w2.heap.size + 1) (.int .i64 c1) (.int .i64 at') := by rw [hw3]; have := Bx2.new (w2.alloc (.cells #[.int .i64 k, .int .i64 vk, .bool vy, .int .i64 vc, .int .i64 vx, .string vt, .slice va vn vp, .string ss, .slice xa xn xc] 29)) 35 (.int .i64 c1) (.int .i64 at'); simpa using this
  have HB3 := hide (below_via (below_via (unhide HB1) hb2) B3)
  have HX3 : Hid (c1 = 0 → XB (· < w2.heap.size) w3 X1 #[.int .i64 k, .int .i64 vk, .bool vy, .int .i64 vc, .int .i64 vx, .string vt, .slice va vn vp, .string ss, .slice xa xn xc]) := hide (fun c => ((hx1 c).mono (Q := (· < w2.heap.size)) fun _ lb _ => lb).keep B3)
  have HV3 := hide V3
  have HF3 := hide F3
  have HZ3 : Hid (w.heap.size ≤ w2.heap.size) := hide (below_via (unhide HB1) hb2).size
  have f0 := F3.at0
  clear hb2 hx1 B3 V3 F3 RD1
  by_cases hc : c1 = 0
  case neg =>
    have g1 : (c1 != 0) = true := by simpa using hc
    clear hc HBR HX3
    go_upto_region 4 with fail
    rw [← hw3]
    clear hw3
    go_wp2
    go_ret
    exact ⟨rfl, unhide HB3⟩
  case pos =>
    have hs := unhide HLN hc
    have hw : IntKind.i64.wrap ((s.size : Int) + 4) = (s.size : Int) + 4 := by rw [IntKind.wrap_i64]; omega
    have g1 : (c1 != 0) = false := by simpa using hc
    clear hs
    have HC := hide hc
    clear hc
    by_cases hm : s.size + 4 ≤ 4000
    case neg =>
      have g2 : (4000 : Int) < (s.size : Int) + 4 := by omega
      clear hm HBR HX3
      go_upto_region 4 with fail
      rw [← hw3]
      clear hw3
      go_wp2
      go_ret
      exact ⟨rfl, unhide HB3⟩
    case pos =>
      have g2 : ¬ (4000 : Int) < (s.size : Int) + 4 := by omega
      have HQ := hide (unhide HBR (unhide HC) hm)
      clear hm HBR
      go_upto_region 4 with fail
      rw [← hw3]
      clear hw3
      go_wp2_with fail
      refine (unhide RD2 w3 (unhide HB3)).mono ?_
      rintro en w4 ⟨hb4, ds, bt, rfl, h9, hx2⟩
      obtain ⟨k', vk', vy', vc', vx', vt', va', vn', vp', ss', xa', xn', xc', rfl⟩ := h9
      simp only at hx2 ⊢
      obtain ⟨wm, hwm⟩ : ∃ wm, wm = (w4.setCell ⟨w2.heap.size + 1, 0, none⟩ (.int .i64 c2)).setCell ⟨w2.heap.size + 1, 1, none⟩ (.int .i64 bt) := ⟨_, rfl⟩
      have zm : wm.heap.size = w4.heap.size := by rw [hwm]; simp [World.setCell]
      obtain ⟨w5, hw5⟩ : ∃ w5, w5 = wm.alloc (.cells #[.int .i64 k', .int .i64 vk', .bool vy', .int .i64 vc', .int .i64 vx', .string vt', .slice va' vn' vp', .string ss', .slice xa' xn' xc'] 29) := ⟨_, rfl⟩
      have l3 := (unhide HF3).low
      have l34 := hb4.size
      have BM : But (w2.heap.size + 1) w4 wm := by rw [hwm]; exact But.set.trans But.set
      have B5 : Below wm.heap.size wm w5 := by rw [hw5]; exact vbelow_new _ _
      have F5 : Bx2 w5 (w2.heap.size + 1) (.int .i64 c2) (.int .i64 bt) := by
        have := ((unhide HF3).keep hb4 l3).put (.int .i64 c2) (.int .i64 bt)
        rw [← hwm] at this
        exact this.keep B5 this.low
      have V5 : V9 w5 w2.heap.size (.int .i64 k) (.int .i64 vk) (.bool vy) (.int .i64 vc) (.int .i64 vx) (.string vt) (.slice va vn vp) (.string ss) (.slice xa xn xc) := by
        have := ((unhide HV3).keep hb4 (unhide HV3).low).but BM (by omega)
        exact this.keep B5 this.low
      have N5 : V9 w5 w4.heap.size (.int .i64 k') (.int .i64 vk') (.bool vy') (.int .i64 vc') (.int .i64 vx') (.string vt') (.slice va' vn' vp') (.string ss') (.slice xa' xn' xc') := by
        rw [hw5, ← zm]; exact V9.new wm 29 _ _ _ _ _ _ _ _ _
      have HB5 : Hid (Below w.heap.size w w5) := hide ((below_via (unhide HB3) hb4).trans ((BM.below (by have := unhide HZ3; omega) (by have := (unhide HB3).size; omega)).trans (B5.mono (by rw [zm]; have := (unhide HB3).size; omega))))
      have HXA : Hid (XB (fun _ => True) w5 X1 #[.int .i64 k, .int .i64 vk, .bool vy, .int .i64 vc, .int .i64 vx, .string vt, .slice va vn vp, .string ss, .slice xa xn xc]) := hide (((((unhide HX3 (unhide HC)).keep hb4).stay BM.size fun c hc (hp : c < w2.heap.size) => BM.block c hc (by omega)).keep B5).mono fun _ _ _ => trivial)
      have HXB : Hid (c2 = 0 → XB (fun _ => True) w5 X2 #[.int .i64 k', .int .i64 vk', .bool vy', .int .i64 vc', .int .i64 vx', .string vt', .slice va' vn' vp', .string ss', .slice xa' xn' xc']) := hide (fun c => ((((hx2 c).stay BM.size fun c' hc (hp : w3.heap.size ≤ c') => BM.block c' hc (by omega)).keep B5).mono fun _ _ _ => trivial))
      have f5 := F5.at0
      obtain ⟨v0, v1, v2, v3, v4, v5, v6, v7, v8⟩ := V5.tell
      obtain ⟨n0, n1, n2, n3, n4, n5, n6, n7, n8⟩ := N5.tell
      have q0 := ((unhide HF3).keep hb4 l3).at0
      have q1 := ((unhide HF3).keep hb4 l3).at1
      have qf0 := ((unhide HF3).keep hb4 l3).th0
      have qf1 := ((unhide HF3).keep hb4 l3).th1
      have ql := ((unhide HF3).keep hb4 l3).low
      clear hb4 hx2 l3 l34 BM B5 F5 V5 N5 zm HX3 HV3 HF3 HZ3 RD2 f0
      go_upto_region 7 with fail
      rw [← hwm, ← hw5]
      clear hwm hw5 q0 q1 qf0 qf1 ql
      by_cases hd : c2 = 0
      case neg =>
        have h4 : c2 = 4 := by
          rcases unhide HQ with e | e
          · cases e; exact absurd rfl hd
          · exact e
        subst h4
        clear hd HXB HXA
        go_wp2
        go_ret
        exact ⟨rfl, unhide HB5⟩
      case pos =>
        have hX : X2 = X1 := by
          rcases unhide HQ with e | e
          · cases e; rfl
          · rw [hd] at e; exact absurd e (by decide)
        subst hX
        have SM := hide (sameX_all X2 w5 _ _ (unhide HXA) (unhide HXB hd))
        subst hd
        clear HXB HXA
        go_wp2_with fail
        refine (unhide SM).mono ?_
        rintro en w6 ⟨rfl, hb6⟩
        have HB6 := hide (below_via (unhide HB5) hb6)
        clear hb6 SM
        go_wp2
        go_ret
        exact ⟨rfl, unhide HB6⟩
end Go.Proofs.YthpjejfgoohhfaaGreatDoor
