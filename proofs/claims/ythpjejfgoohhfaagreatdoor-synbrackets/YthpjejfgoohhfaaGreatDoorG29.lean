/- Walks: joined, its loop. (Written by mk_po.py.) -/
import Derived.Test.YthpjejfgoohhfaaGreatDoorG28
import Derived.Deep.Cut
namespace Go.Proofs.YthpjejfgoohhfaaGreatDoor
open Go.RowKit Go.MapKept

theorem Nine.tell {w : World} {b : Nat} {v0 v1 v2 v3 v4 v5 v6 v7 v8 : Value} (h : Nine w b 0 #[v0, v1, v2, v3, v4, v5, v6, v7, v8]) : w.cell? ⟨b, 0, none⟩ = some v0 ∧ w.cell? ⟨b, 1, none⟩ = some v1 ∧ w.cell? ⟨b, 2, none⟩ = some v2 ∧ w.cell? ⟨b, 3, none⟩ = some v3 ∧ w.cell? ⟨b, 4, none⟩ = some v4 ∧ w.cell? ⟨b, 5, none⟩ = some v5 ∧ w.cell? ⟨b, 6, none⟩ = some v6 ∧ w.cell? ⟨b, 7, none⟩ = some v7 ∧ w.cell? ⟨b, 8, none⟩ = some v8 := by
  obtain ⟨u0, u1, u2, u3, u4, u5, u6, u7, u8, hu, c0, c1, c2, c3, c4, c5, c6, c7, c8⟩ := h
  simp only [Array.mk.injEq, List.cons.injEq, and_true] at hu
  obtain ⟨rfl, rfl, rfl, rfl, rfl, rfl, rfl, rfl, rfl⟩ := hu
  exact ⟨c0, c1, c2, c3, c4, c5, c6, c7, c8⟩
theorem Nine.but {p b o : Nat} {w w' : World} {u : Array Value} (h : Nine w b o u) (hb : But p w w') (l : b < w.heap.size) (ne : b ≠ p) : Nine w' b o u := by
  have c : ∀ o, w'.cell? ⟨b, o, none⟩ = w.cell? ⟨b, o, none⟩ := fun o => hb.cell (q := ⟨b, o, none⟩) l ne
  obtain ⟨u0, u1, u2, u3, u4, u5, u6, u7, u8, hu, h0, h1, h2, h3, h4, h5, h6, h7, h8⟩ := h
  exact ⟨u0, u1, u2, u3, u4, u5, u6, u7, u8, hu, by rw [c, h0], by rw [c, h1], by rw [c, h2], by rw [c, h3], by rw [c, h4], by rw [c, h5], by rw [c, h6], by rw [c, h7], by rw [c, h8]⟩
theorem X9.ex {cs : Array Value} (h : X9 cs) : ∃ (k vk : Int) (vy : Bool) (vc vx : Int) (vt : ByteArray) (va : Option Addr) (vn vp : Nat) (s : ByteArray) (a : Option Addr) (n cap : Nat), cs = #[.int .i64 k, .int .i64 vk, .bool vy, .int .i64 vc, .int .i64 vx, .string vt, .slice va vn vp, .string s, .slice a n cap] := h

set_option maxRecDepth 100000 in
set_option maxHeartbeats 16000000 in
theorem joined_any {w : World} {R g m : Nat} {l : List Tk} {e : Int} {o i : Nat} (h : RD w R g m l e o i) (vw : Tree → Int) (L L1 : Int) (h1 : 1 ≤ L) (h5 : L ≤ 5) (hL1 : L1 = L + 1) (N : Nat) (hN : 12 * (l.length - i) + 4 ≤ N)
    (hJ0 : ∀ W, RD W R g m l e o i → Calls Tryz.prog 47 #[.pointer (some ⟨R, 0, none⟩), .int .i64 L1] W (PostX R g m l e o i ((ps l vw N).J L1 o i) W))
    (hJ : ∀ n j W, i < j → 12 * (l.length - j) + 11 ≤ n → n ≤ N → RD W R g m l e o j → Calls Tryz.prog 47 #[.pointer (some ⟨R, 0, none⟩), .int .i64 L1] W (PostX R g m l e o j ((ps l vw n).J L1 o j) W)) :
    Calls Tryz.prog 47 #[.pointer (some ⟨R, 0, none⟩), .int .i64 L] w (PostX R g m l e o i ((ps l vw (N + 1)).J L o i) w) := by
  rw [ps_JF _ _ _ _ _ _ (by omega)]
  obtain ⟨w0, hw0⟩ : ∃ w0, w0 = w.alloc (.cells zero9 29) := ⟨_, rfl⟩
  have B0 : Below w.heap.size w w0 := by rw [hw0]; exact vbelow_new _ _
  have K0 : K9 w0 w.heap.size := by rw [hw0]; exact K9.new w 29 _ _ _ _ _ _ _ _ _
  have z0 : w0.heap.size = w.heap.size + 1 := by rw [hw0]; simp
  have CP := hide (hJ0 w0 (h.keep B0))
  obtain ⟨final, hfin⟩ : ∃ final, final = onOk ((ps l vw N).J (L + 1) o i) fun x j => (ps l vw N).K L o x j := ⟨_, rfl⟩
  rw [← hfin]
  have HG0 : ∀ r, r = (ps l vw N).J L1 o i → (r.1 = 0 → i ≤ r.2.2) → JG l vw N L o final r := fun r hr hir => by
    rw [hfin, ← hL1, ← hr]
    exact JG.start (by omega) hir
  have HG0' := hide HG0
  have HJ0 := hide hJ
  have HH := hide h
  have HB0 := hide B0
  have HK := hide K0
  have HL1 := hide hL1
  have HZ1 : Hid (w.heap.size < w0.heap.size) := hide (by omega)
  generalize (ps l vw N).J L1 o i = r0 at CP HG0'
  have e6 : ¬ (L = 6) := by omega
  have e6' : (L == 6) = false := by simpa using e6
  have wL : IntKind.i64.wrap (L + 1) = L1 := by rw [hL1, IntKind.wrap_i64]; omega
  clear h B0 K0 z0 hJ hJ0 HG0 hfin hL1 h1 h5 hN
  go_enter Tryz.func47, Tryz.ntmps47
  go_upto_region 3 with fail
  rw [← hw0]
  clear hw0
  go_wp2_with fail
  refine (unhide CP).mono ?_
  rintro en w1 ⟨hb1, cs, err, j, rfl, h9, hr1, hij, hres⟩
  obtain ⟨k, vk, vy, vc, vx, vt, va, vn, vp, s, xa, xn, xc, rfl⟩ := h9
  have z1 := hb1.size
  have hne4 : w.heap.size ≠ w1.heap.size := by have := unhide HZ1; omega
  have HJ1 : Hid (JL R g m l e o i w w.heap.size w1.heap.size r0 j _ err (w1.alloc (.cells _ 29))) := hide (JL.start (But.of (unhide HB0)) hb1 ((unhide HK).but hb1 (by have := (unhide HH).low; omega)) ⟨k, vk, vy, vc, vx, vt, va, vn, vp, s, xa, xn, xc, rfl⟩ hr1 hij (unhide HZ1) hres)
  have HG1 : Hid (JG l vw N L o final r0) := hide (unhide HG0' _ rfl fun q => by rw [if_pos q] at hres; have := hres.2.1; omega)
  have HN4 := hide hne4
  have HW6 : Hid (w.heap.size ≤ w1.heap.size) := hide (by have := unhide HZ1; omega)
  clear hb1 hr1 hres CP HK HG0' z1 hne4
  go_upto_region 4 with fail
  obtain ⟨wS, hwS⟩ : ∃ wS, wS = w1.alloc (.cells #[.int .i64 k, .int .i64 vk, .bool vy, .int .i64 vc, .int .i64 vx, .string vt, .slice va vn vp, .string s, .slice xa xn xc] 29) := ⟨_, rfl⟩
  rw [← hwS] at HJ1 ⊢
  clear hwS
  go_wp2_with fail
  go_loopg [7] (l.length - j) (fun gk ev wr => ∃ (r : PR) (jj : Nat) (cs : Array Value), gk = l.length - jj ∧ Hid (JL R g m l e o i w w.heap.size w1.heap.size r jj cs ev wr) ∧ Hid (JG l vw N L o final r))
  case atStart => exact ⟨r0, j, _, rfl, HJ1, HG1⟩
  case round =>
    clear HJ1 HG1
    obtain ⟨r, jj, cs, hgk, HJ, HG⟩ := hrel
    obtain ⟨k, vk, vy, vc, vx, vt, va, vn, vp, s, xa, xn, xc, rfl⟩ := (unhide HJ).x9.ex
    by_cases q : r.1 = 0
    case neg =>
      obtain ⟨at1, rfl⟩ : UV r.1 _ := by have := (unhide HJ).res; rwa [if_neg q] at this
      have HE : Hid (JE final r) := hide ⟨(unhide HG).1, fun c => absurd c q⟩
      obtain ⟨a0, a1, a2, a3, a4, a5, a6, a7, a8⟩ := (unhide HJ).at6.tell
      obtain ⟨u0, u1, u2, u3, u4, u5, u6, u7, u8, c0, c1, c2, c3, c4, c5, c6, c7, c8, f⟩ := (unhide HJ).k4.all
      have l4 := (unhide HJ).k4.low
      clear q hgk HG
      go_wp2
      refine bodyPost_ret (res_joined _ (unhide HJ).k4 rfl rfl) rfl ?_
      exact PostX.jl (unhide HH) (unhide HJ) (Nat.le_refl _) (unhide HE)
    case pos =>
      have hres := (unhide HJ).res
      rw [if_pos q] at hres
      obtain ⟨rfl, rfl, _⟩ := hres
      have HQ := hide q
      obtain ⟨a0, a1, a2, a3, a4, a5, a6, a7, a8⟩ := (unhide HJ).at6.tell
      rcases hjf : jointF l r.2.2 L with _ | kk
      · have C := joint_any (unhide HJ).rd L
        rw [hjf] at C
        simp only [Option.isSome_none] at C
        have CJ := hide C
        have HE : Hid (JE final r) := hide ((unhide HG).stop q hjf)
        clear C q hgk HG hjf a0 a1 a2 a3 a4 a5 a6 a7 a8
        go_wp2_with fail
        refine (unhide CJ).mono ?_
        rintro en wA ⟨⟨sS, sa, sk, rfl, _⟩, hbA⟩
        obtain ⟨wB, hwB⟩ : ∃ wB, wB = wA.alloc (.cells #[.string sS, .int .i64 sa, .int .i64 sk] 79) := ⟨_, rfl⟩
        have BB : Below wr.heap.size wr wB := by rw [hwB]; exact below_via hbA (vbelow_new _ _)
        have HJB := hide ((unhide HJ).keep BB)
        clear BB hbA CJ HJ
        go_upto_region 6 with fail
        rw [← hwB]
        clear hwB
        obtain ⟨a0, a1, a2, a3, a4, a5, a6, a7, a8⟩ := (unhide HJB).at6.tell
        obtain ⟨u0, u1, u2, u3, u4, u5, u6, u7, u8, c0, c1, c2, c3, c4, c5, c6, c7, c8, f⟩ := (unhide HJB).k4.all
        have l4 := (unhide HJB).k4.low
        go_wp2
        refine bodyPost_ret (res_joined _ (unhide HJB).k4 rfl rfl) rfl ?_
        exact PostX.jl (unhide HH) (unhide HJB) (Nat.le_refl _) (unhide HE)
      · have C := joint_any (unhide HJ).rd L
        rw [hjf] at C
        simp only [Option.isSome_some] at C
        have CJ := hide C
        have hlt := jointF_lt hjf
        have HLT := hide hlt
        have HNX := hide ((unhide HG).next q hjf)
        clear C q HG hjf a0 a1 a2 a3 a4 a5 a6 a7 a8 hlt
        go_wp2_with fail
        refine (unhide CJ).mono ?_
        rintro en wA ⟨⟨sS, sa, sk, rfl, hk⟩, hbA⟩
        obtain rfl := hk kk rfl
        obtain ⟨wB, hwB⟩ : ∃ wB, wB = wA.alloc (.cells #[.string sS, .int .i64 sa, .int .i64 sk] 79) := ⟨_, rfl⟩
        have BB : Below wr.heap.size wr wB := by rw [hwB]; exact below_via hbA (vbelow_new _ _)
        have sg : wB.cell? ⟨wA.heap.size, 2, none⟩ = some (.int .i64 sk) := by rw [hwB]; simp [go_sem]
        have lA : wA.heap.size < wB.heap.size := by rw [hwB]; simp
        have HJB := hide ((unhide HJ).keep BB)
        have HBB := hide BB
        have HSG := hide sg
        have HLA := hide lA
        have HWA := hide hbA.size
        clear BB hbA CJ sg lA hk
        go_upto_region 6 with fail
        rw [← hwB]
        clear hwB
        have PS := hide (pass_any R g r.2.2 e l wB (unhide HJB).rd.wk (unhide HLT))
        have lR := (unhide HJB).rd.low
        go_wp2_with fail
        refine (unhide PS).mono ?_
        rintro en wC ⟨rfl, hkC, hbC⟩
        have RC := hide ((unhide HJB).rd.at hbC hkC)
        have HSG2 : Hid (wC.cell? ⟨wA.heap.size, 2, none⟩ = some (.int .i64 sk)) := hide ((hbC.but.cell (q := ⟨wA.heap.size, 2, none⟩) (unhide HLA) (by have := (unhide HJ).rd.low; have := unhide HWA; simp only; omega)).trans (unhide HSG))
        have HBC := hide ((But.of (p := R) (unhide HBB)).trans hbC.but)
        have HZC := hide hbC.but.size
        clear hkC hbC PS HSG HJB HBB lR
        obtain ⟨wD, hwD⟩ : ∃ wD, wD = wC.alloc (.cells zero9 29) := ⟨_, rfl⟩
        have BD : Below wC.heap.size wC wD := by rw [hwD]; exact vbelow_new _ _
        have KD : K9 wD wC.heap.size := by rw [hwD]; exact K9.new wC 29 _ _ _ _ _ _ _ _ _
        have LD : wC.heap.size < wD.heap.size := by rw [hwD]; simp
        obtain ⟨n, hn, hnN, hnx⟩ := unhide HNX
        have CN := hide (unhide HJ0 n (r.2.2 + 1) wD (by have := (unhide HJ).ij; omega) hn hnN ((unhide RC).keep BD))
        have hne : ∀ cc, UV cc (.nilIface) → False := fun cc hc => by obtain ⟨_, hc⟩ := hc; cases hc
        obtain ⟨y, hy⟩ : ∃ y, y = (ps l vw n).J L1 o (r.2.2 + 1) := ⟨_, rfl⟩
        rw [← hy] at CN
        have HYX : Hid ((y.1 = 0 → r.2.2 + 1 ≤ y.2.2) → (L = 3 → JE final (if y.1 = 0 then (0, xN sk [r.2.1, y.2.1], y.2.2) else (y.1, noX, y.2.2))) ∧ (L ≠ 3 → JG l vw N L o final (if y.1 = 0 then (0, xN sk [r.2.1, y.2.1], y.2.2) else (y.1, noX, y.2.2)))) := hide (hnx y (by rw [hy, unhide HL1]))
        have HKD := hide KD
        have HLD := hide LD
        have HBD := hide ((unhide HBC).trans (But.of BD))
        have HZCw := hide (unhide HBC).size
        have HSG3 : Hid (wD.cell? ⟨wA.heap.size, 2, none⟩ = some (.int .i64 sk)) := hide ((BD.cell (p := ⟨wA.heap.size, 2, none⟩) (Nat.lt_of_lt_of_le (unhide HLA) (unhide HZC))).trans (unhide HSG2))
        have HAC : Hid (wA.heap.size < wC.heap.size) := hide (Nat.lt_of_lt_of_le (unhide HLA) (unhide HZC))
        clear hn hnN hnx hy BD KD LD RC HBC HNX hne HSG2 HZC
        go_upto_region 9 with fail
        rw [← hwD]
        clear hwD
        go_wp2_with fail
        refine (unhide CN).mono ?_
        rintro en wE ⟨hb2, cs, err, jp, rfl, h9, hr2, hij, hres⟩
        obtain ⟨kz, vkz, vyz, vcz, vxz, vtz, vaz, vnz, vpz, sz, xaz, xnz, xcz, rfl⟩ := h9
        have HKE := hide ((unhide HKD).but hb2 (by have := (unhide HJ).rd.low; have := unhide HZCw; omega))
        have HJ6 := hide (((unhide HJ).k6.but (unhide HBD) (by have := (unhide HH).low; have := unhide HW6; omega)).but hb2 (by have := (unhide HH).low; have := unhide HW6; omega))
        have HXT := hide ((Nine.but (unhide HJ).at6 (unhide HBD) (unhide HJ).k6.low (by have := (unhide HH).low; have := unhide HW6; omega)).but hb2 (Nat.lt_of_lt_of_le (unhide HJ).k6.low (unhide HBD).size) (by have := (unhide HH).low; have := unhide HW6; omega))
        have HSG4 : Hid (wE.cell? ⟨wA.heap.size, 2, none⟩ = some (.int .i64 sk)) := hide ((hb2.cell (q := ⟨wA.heap.size, 2, none⟩) (by have := unhide HAC; have := unhide HLD; simp only; omega) (by have := (unhide HJ).rd.low; have := unhide HWA; simp only; omega)).trans (unhide HSG3))
        have HNXT := hide (JL.next (k := sk) (t := 29) (unhide HJ) (unhide HQ) (unhide HH) (Nat.le_refl _) (unhide HW6) (unhide HN4) (unhide HBD) (unhide HLD) (unhide HZCw) hb2 hr2 hij hres)
        have HIJ := hide hij
        have HYX2 := hide (unhide HYX (fun c => by rw [if_pos c] at hres; have := hres.2.1; omega))
        clear hb2 hr2 hres hij CN HKD HYX
        obtain ⟨b0, b1, b2, b3, b4, b5, b6, b7, b8, q0, q1, q2, q3, q4, q5, q6, q7, q8, f⟩ := (unhide HKE).all
        have lE := (unhide HKE).low
        go_upto_region 10 with fail
        have hL6 := Nat.lt_of_lt_of_le (unhide HJ).k6.low (unhide HZCw)
        have hL4 := unhide HAC
        have N10 := hide (Nine.put9 (v0 := .int .i64 kz) (v1 := .int .i64 vkz) (v2 := .bool vyz) (v3 := .int .i64 vcz) (v4 := .int .i64 vxz) (v5 := .string vtz) (v6 := .slice vaz vnz vpz) (v7 := .string sz) (v8 := .slice xaz xnz xcz) (unhide HKE))
        have N6 := hide ((unhide HXT).but (p := wC.heap.size) (put9_but (v0 := .int .i64 kz) (v1 := .int .i64 vkz) (v2 := .bool vyz) (v3 := .int .i64 vcz) (v4 := .int .i64 vxz) (v5 := .string vtz) (v6 := .slice vaz vnz vpz) (v7 := .string sz) (v8 := .slice xaz xnz xcz)) (unhide HJ6).low (by omega))
        have K6F := hide ((unhide HJ6).but (put9_but (b := wC.heap.size) (v0 := .int .i64 kz) (v1 := .int .i64 vkz) (v2 := .bool vyz) (v3 := .int .i64 vcz) (v4 := .int .i64 vxz) (v5 := .string vtz) (v6 := .slice vaz vnz vpz) (v7 := .string sz) (v8 := .slice xaz xnz xcz)) (by omega))
        have SGF := hide ((But.cell (put9_but (w := wE) (b := wC.heap.size) (v0 := .int .i64 kz) (v1 := .int .i64 vkz) (v2 := .bool vyz) (v3 := .int .i64 vcz) (v4 := .int .i64 vxz) (v5 := .string vtz) (v6 := .slice vaz vnz vpz) (v7 := .string sz) (v8 := .slice xaz xnz xcz)) (q := ⟨wA.heap.size, 2, none⟩) (by simp only; omega) (by simp only; omega)).trans (unhide HSG4))
        obtain ⟨wF, hwF⟩ : ∃ wF, wF = put9 wE wC.heap.size (.int .i64 kz) (.int .i64 vkz) (.bool vyz) (.int .i64 vcz) (.int .i64 vxz) (.string vtz) (.slice vaz vnz vpz) (.string sz) (.slice xaz xnz xcz) := ⟨_, rfl⟩
        rw [← hwF] at HNXT N10 N6 K6F SGF
        unfold put9 at hwF
        rw [← hwF]
        clear hwF hL6 hL4 HXT HJ6 HKE HSG4 lE b0 b1 b2 b3 b4 b5 b6 b7 b8 q0 q1 q2 q3 q4 q5 q6 q7 q8 f
        obtain ⟨b0, b1, b2, b3, b4, b5, b6, b7, b8⟩ := (unhide N10).tell
        obtain ⟨a0, a1, a2, a3, a4, a5, a6, a7, a8⟩ := (unhide N6).tell
        have sg := unhide SGF
        have f6 := (unhide K6F).free
        have l6 := (unhide K6F).low
        go_upto_region 11 with fail
        rw [← put9_alloc l6] at HNXT
        obtain ⟨wG, hwG⟩ : ∃ wG, wG = (put9 wF w1.heap.size (.int .i64 sk) (.int .i64 0) (.bool false) (.int .i64 0) (.int .i64 0) (.string ⟨#[]⟩) (.slice none 0 0) (.string ⟨#[]⟩) (.slice (some ⟨wF.heap.size, 0, none⟩) 2 2)).alloc (.cells #[.int .i64 k, .int .i64 vk, .bool vy, .int .i64 vc, .int .i64 vx, .string vt, .slice va vn vp, .string s, .slice xa xn xc, .int .i64 kz, .int .i64 vkz, .bool vyz, .int .i64 vcz, .int .i64 vxz, .string vtz, .slice vaz vnz vpz, .string sz, .slice xaz xnz xcz] 29) := ⟨_, rfl⟩
        rw [← hwG] at HNXT
        unfold put9 at hwG
        rw [← hwG]
        clear hwG N10 N6 K6F SGF b0 b1 b2 b3 b4 b5 b6 b7 b8 a0 a1 a2 a3 a4 a5 a6 a7 a8 sg f6 l6
        obtain ⟨rn, hrn⟩ : ∃ rn, rn = (if y.1 = 0 then ((0 : Int), xN sk [r.2.1, y.2.1], y.2.2) else (y.1, noX, y.2.2)) := ⟨_, rfl⟩
        rw [← hrn] at HNXT HYX2
        clear hrn
        by_cases h3 : L = 3
        · have HE : Hid (JE final rn) := hide ((unhide HYX2).1 h3)
          have g3 : (L == 3) = true := by simpa using h3
          obtain ⟨a0, a1, a2, a3, a4, a5, a6, a7, a8⟩ := (unhide HNXT).at6.tell
          obtain ⟨u0, u1, u2, u3, u4, u5, u6, u7, u8, c0, c1, c2, c3, c4, c5, c6, c7, c8, f⟩ := (unhide HNXT).k4.all
          have l4 := (unhide HNXT).k4.low
          have H3 := hide h3
          clear h3 HYX2 hgk
          go_wp2
          refine bodyPost_ret (res_joined _ (unhide HNXT).k4 rfl rfl) rfl ?_
          exact PostX.jl (unhide HH) (unhide HNXT) (Nat.le_refl _) (unhide HE)
        · have HE := hide ((unhide HYX2).2 h3)
          have g3 : (L == 3) = false := by simpa using h3
          have HGK := hide hgk
          clear HYX2 hgk
          go_wp2
          go_roundg (l.length - jp)
          case measure => rw [unhide HGK]; have := unhide HIJ; have := unhide HLT; omega
          case rel => exact ⟨rn, jp, _, rfl, HNXT, HE⟩
end Go.Proofs.YthpjejfgoohhfaaGreatDoor

/- Take and Need of a reader; how listed and behind go on (plain). -/
namespace Go.Proofs.YthpjejfgoohhfaaGreatDoor
open Go.RowKit Go.MapKept

theorem MapF.under {b n : Nat} {f : ByteArray → Option Value} {w w' : World} (h : MapF b f w) (hb : Below n w w') (hn : b < n) : MapF b f w' := by
  obtain ⟨es, c, h1, h2⟩ := h.map
  exact ⟨Nat.lt_of_lt_of_le h.low hb.size, es, c, (hb.block b hn).trans h1, h2⟩
theorem take_rd {W : World} {R g m : Nat} {l : List Tk} {e : Int} {o i : Nat} (h : RD W R g m l e o i) (s : ByteArray) (P : Nat) (hP : W.heap.size = P) :
    Calls Tryz.prog 45 #[.pointer (some ⟨R, 0, none⟩), .slice (some ⟨P, 0, none⟩) 1 1] (W.alloc (.cells #[.string s] 9)) fun r w' => r = .returned (.bool (seesT l i s.data.toList)) ∧ But R W w' ∧ RD w' R g m l e o (if seesT l i s.data.toList = true then i + 1 else i) :=
  (take_lit R g i e l s P W hP h.wk h.tk h.len).mono fun _ _ q => ⟨q.1, q.2.2.but, h.at q.2.2 q.2.1⟩

theorem need_rd {w : World} {R g m : Nat} {l : List Tk} {e : Int} {o i : Nat} (h : RD w R g m l e o i) (s : ByteArray) :
    Calls Tryz.prog 69 #[.pointer (some ⟨R, 0, none⟩), .string s] w fun r w' => ∃ v, r = .returned v ∧ But R w w' ∧ (if seesT l i s.data.toList = true then v = .nilIface ∧ RD w' R g m l e o (i + 1) else UV 2 v ∧ RD w' R g m l e o i) := by
  by_cases q : seesT l i s.data.toList = true
  · refine (need_yes R g i e l s w h.wk h.tk h.len (by rw [seesL_one]; exact q)).mono fun _ _ p => ?_
    refine ⟨_, p.1, p.2.2.but, ?_⟩
    rw [if_pos q]
    exact ⟨rfl, h.at p.2.2 p.2.1⟩
  · refine (need_no R g i e l s w h.wk h.tk h.gne h.len (by rw [seesL_one]; simpa using q)).mono fun _ _ p => ?_
    obtain ⟨⟨v, q1, q2⟩, q3, q4⟩ := p
    refine ⟨v, q1, q4.but, ?_⟩
    rw [if_neg q]
    exact ⟨q2, h.at q4 q3⟩

theorem onOkLL_no {r : PR} {f : XT → Nat → PL} (h : r.1 ≠ 0) : onOkLL r f = (r.1, [], r.2.2) := by unfold onOkLL; rw [if_neg h]
theorem onOkLL_yes {r : PR} {f : XT → Nat → PL} (h : r.1 = 0) : onOkLL r f = f r.2.1 r.2.2 := by unfold onOkLL; rw [if_pos h]

/-- how a list goes on -/
def LG (l : List Tk) (vw : Tree → Int) (M : Nat) (c : List UInt8) (most o : Nat) (final : PL) (acc : List XT) (j : Nat) : Prop :=
  ∃ n, final = (ps l vw (n + 1)).L c most o acc j ∧ 12 * (l.length - j) + (if acc = [] then 12 else 0) ≤ n + 1 ∧ n + 1 ≤ M
theorem LG.close {l : List Tk} {vw : Tree → Int} {M : Nat} {c : List UInt8} {most o : Nat} {final : PL} {acc : List XT} {j : Nat} (h : LG l vw M c most o final acc j) (hs : seesT l j c = true) : final = (0, acc, j + 1) := by
  obtain ⟨n, e, _, _⟩ := h
  rw [e, ps_L, lF, if_pos hs]
theorem LG.comma {l : List Tk} {vw : Tree → Int} {M : Nat} {c : List UInt8} {most o : Nat} {final : PL} {acc : List XT} {j : Nat} (h : LG l vw M c most o final acc j) (hs : seesT l j c = false) (ha : acc ≠ []) (hc : seesT l j [44] = false) : final = (2, [], j) := by
  obtain ⟨n, e, _, _⟩ := h
  rw [e, ps_L, lF, if_neg (by rw [hs]; simp), if_pos ⟨ha, hc⟩]
theorem LG.many {l : List Tk} {vw : Tree → Int} {M : Nat} {c : List UInt8} {most o : Nat} {final : PL} {acc : List XT} {j : Nat} (h : LG l vw M c most o final acc j) (hs : seesT l j c = false) (ha : acc = [] ∨ seesT l j [44] = true) (hm : acc.length = most) : final = (5, [], j) := by
  obtain ⟨n, e, _, _⟩ := h
  rw [e, ps_L, lF, if_neg (by rw [hs]; simp), if_neg (fun q => by rcases ha with a | a; exact q.1 a; rw [a] at q; cases q.2), if_pos hm]
theorem LG.next {l : List Tk} {vw : Tree → Int} {M : Nat} {c : List UInt8} {most o : Nat} {final : PL} {acc : List XT} {j : Nat} (h : LG l vw M c most o final acc j) (hs : seesT l j c = false) (ha : acc = [] ∨ seesT l j [44] = true) (hm : acc.length ≠ most) (jj : Nat) (hjj : jj = if acc = [] then j else j + 1) :
    ∃ n, n + 1 ≤ M ∧ 12 * (l.length - jj) + 11 ≤ n ∧ ∀ y, y = (ps l vw n).E o jj → (y.1 ≠ 0 → final = (y.1, [], y.2.2)) ∧ (y.1 = 0 → jj ≤ y.2.2 → LG l vw M c most o final (acc ++ [y.2.1]) y.2.2) := by
  obtain ⟨n, e, hn, hM⟩ := h
  rw [ps_L, lF, if_neg (by rw [hs]; simp), if_neg (fun q => by rcases ha with a | a; exact q.1 a; rw [a] at q; cases q.2), if_neg hm, ← hjj] at e
  have hlt : acc ≠ [] → j < l.length := fun q => by
    rcases ha with a | a
    · exact absurd a q
    · exact seesT_lt a
  have hb : 12 * (l.length - jj) + 11 ≤ n := by
    by_cases q : acc = []
    · rw [if_pos q] at hn hjj; omega
    · have := hlt q
      rw [if_neg q] at hn hjj; omega
  refine ⟨n, hM, hb, fun y hy => ?_⟩
  rw [← hy] at e
  refine ⟨fun q => by rw [e, onOkLL_no q], fun q hq => ?_⟩
  rw [onOkLL_yes q] at e
  obtain ⟨n', rfl⟩ : ∃ n', n = n' + 1 := ⟨n - 1, by omega⟩
  exact ⟨n', e, by rw [if_neg (by simp)]; omega, by omega⟩

/-- how words with expressions behind them go on -/
def BG (l : List Tk) (vw : Tree → Int) (M : Nat) (o : Nat) (final : PL) (ws : List (List UInt8)) (acc : List XT) (j : Nat) : Prop :=
  ∃ n, final = (ps l vw (n + 1)).B ws o acc j ∧ 12 * (l.length - j) ≤ n + 1 ∧ n + 1 ≤ M
theorem BG.done {l : List Tk} {vw : Tree → Int} {M o : Nat} {final : PL} {acc : List XT} {j : Nat} (h : BG l vw M o final [] acc j) : final = (0, acc, j) := by
  obtain ⟨n, e, _, _⟩ := h
  rw [e, ps_B, bF]
theorem BG.word {l : List Tk} {vw : Tree → Int} {M o : Nat} {final : PL} {s : List UInt8} {ss : List (List UInt8)} {acc : List XT} {j : Nat} (h : BG l vw M o final (s :: ss) acc j) (hs : seesT l j s = false) : final = (2, [], j) := by
  obtain ⟨n, e, _, _⟩ := h
  rw [e, ps_B, bF, if_pos hs]
theorem BG.next {l : List Tk} {vw : Tree → Int} {M o : Nat} {final : PL} {s : List UInt8} {ss : List (List UInt8)} {acc : List XT} {j : Nat} (h : BG l vw M o final (s :: ss) acc j) (hs : seesT l j s = true) :
    ∃ n, n + 1 ≤ M ∧ 12 * (l.length - (j + 1)) + 11 ≤ n ∧ ∀ y, y = (ps l vw n).E o (j + 1) → (y.1 ≠ 0 → final = (y.1, [], y.2.2)) ∧ (y.1 = 0 → j + 1 ≤ y.2.2 → BG l vw M o final ss (acc ++ [y.2.1]) y.2.2) := by
  obtain ⟨n, e, hn, hM⟩ := h
  have hlt := seesT_lt hs
  rw [ps_B, bF, if_neg (by rw [hs]; simp)] at e
  refine ⟨n, by omega, by omega, fun y hy => ?_⟩
  rw [← hy] at e
  refine ⟨fun q => by rw [e, onOkLL_no q], fun q hq => ?_⟩
  rw [onOkLL_yes q] at e
  obtain ⟨n', rfl⟩ : ∃ n', n = n' + 1 := ⟨n - 1, by omega⟩
  exact ⟨n', e, by omega, by omega⟩

/-- while expressions are gathered: what lies in memory -/
structure LI (R g m : Nat) (l : List Tk) (e : Int) (o i : Nat) (w : World) (acc : List XT) (j : Nat) (sv : Value) (wr : World) : Prop where
  but : But R w wr
  rd : RD wr R g m l e o j
  ij : i ≤ j
  own : XO w.heap.size wr sv acc
theorem LI.to {R g m : Nat} {l : List Tk} {e : Int} {o i : Nat} {w : World} {acc : List XT} {j jj : Nat} {sv : Value} {wr wq : World} (h : LI R g m l e o i w acc j sv wr) (hb : But R wr wq) (hr : RD wq R g m l e o jj) (hj : j ≤ jj) (hR : R < w.heap.size) : LI R g m l e o i w acc jj sv wq :=
  ⟨h.but.trans hb, hr, Nat.le_trans h.ij hj, h.own.but hb hR⟩

/-- they are handed back -/
theorem PostL.good {R g m : Nat} {l : List Tk} {e : Int} {o i : Nat} {w : World} {acc : List XT} {j : Nat} {a : Option Addr} {n cap : Nat} {wr : World} {final : PL} (h : LI R g m l e o i w acc j (.slice a n cap) wr) (hf : final = (0, acc, j)) (hl : n ≤ 1000) :
    PostL R g m l e o i final w (.returned (.tuple #[.slice a n cap, .nilIface])) wr := by
  subst hf
  refine ⟨h.but, a, n, cap, _, j, rfl, h.rd, h.ij, ?_⟩
  rw [if_pos rfl]
  exact ⟨rfl, rfl, h.own.tell.1, hl, h.own.tell.2⟩
/-- or what is wrong -/
theorem PostL.bad {R g m : Nat} {l : List Tk} {e : Int} {o i : Nat} {w : World} {j jf : Nat} {wr : World} {final : PL} {c : Int} {err : Value} {xs : List XT} (hb : But R w wr) (hr : RD wr R g m l e o j) (hij : i ≤ j) (hf : final = (c, xs, jf)) (hc : c ≠ 0) (hu : UV c err) :
    PostL R g m l e o i final w (.returned (.tuple #[.slice none 0 0, err])) wr := by
  subst hf
  refine ⟨hb, none, 0, 0, err, j, rfl, hr, hij, ?_⟩
  rw [if_neg hc]
  exact hu
/-- one more is gathered -/
theorem LI.next {R g m : Nat} {l : List Tk} {e : Int} {o i : Nat} {w : World} {acc : List XT} {j jp : Nat} {sv sv' : Value} {wr wD wE wF : World} {x : XT} {cs : List Value} {v0 v1 v2 v3 v4 v5 v6 v7 v8 : Value} (h : LI R g m l e o i w acc j sv wr) (h0 : RD w R g m l e o i) (hb : But R wr wD) (hr : RD wD R g m l e o jp) (hj : j ≤ jp)
    (hx : XB (wr.heap.size ≤ ·) wD x #[v0, v1, v2, v3, v4, v5, v6, v7, v8]) (hE : Below wD.heap.size wD wE) (hcs : XC (fun b => w.heap.size ≤ b ∧ b < wE.heap.size ∧ sv.ownBlock ≠ some b) wE acc cs) (ho : wF.ownsRow w.heap.size 29 9 sv' (acc.length + 1) (cs ++ [v0, v1, v2, v3, v4, v5, v6, v7, v8])) (hg : wE.grownBy wF sv.ownBlock) (hat : sv'.ownBlock = sv.ownBlock ∨ sv'.ownBlock = some wE.heap.size) :
    LI R g m l e o i w (acc ++ [x]) jp sv' wF := by
  have z0 := h.but.size
  have z1 := hb.size
  have z2 := hE.size
  have oF : Below w.heap.size wE wF := (Below.refl w.heap.size wE).grown hg (by omega) (fun k hk => (h.own.own hk).1)
  have hxE : XB (fun b => w.heap.size ≤ b ∧ b < wE.heap.size ∧ sv.ownBlock ≠ some b) wE x #[v0, v1, v2, v3, v4, v5, v6, v7, v8] :=
    (hx.keep hE).mono fun b lb (hp : wr.heap.size ≤ b) => ⟨by omega, lb, fun q => by have := (h.own.own q).2; omega⟩
  have lR := h0.low
  have lg := h0.tk.low
  have lm := h0.mp.low
  refine ⟨((h.but.trans hb).trans (But.of hE)).on oF, ?_, Nat.le_trans h.ij hj, XO.next hcs hxE ho hg hat⟩
  have hrE := hr.keep hE
  obtain ⟨q, c, h1, h2, h3⟩ := hrE.wk.left
  refine ⟨⟨Nat.lt_of_lt_of_le hrE.low oF.size, hrE.wk.le, ⟨q, c, (oF.cell (p := ⟨R, 0, none⟩) lR).trans h1, h2, h3⟩, (oF.cell (p := ⟨R, 1, none⟩) lR).trans hrE.wk.fin, (oF.frozen (p := ⟨R, 0, none⟩) lR).trans hrE.wk.free⟩, hrE.tk.keep oF lg, hrE.gne, hrE.mne, (oF.cell (p := ⟨R, 2, none⟩) lR).trans hrE.opn, (oF.frozen (p := ⟨R, 2, none⟩) lR).trans hrE.fr, (oF.cell (p := ⟨R, 3, none⟩) lR).trans hrE.sg, (hrE.mp.under oF lm), hrE.len, ?_, hrE.tx⟩
  obtain ⟨B, q, t⟩ := hrE.tb
  exact ⟨B, q, t.below (oF.mono (by omega))⟩
end Go.Proofs.YthpjejfgoohhfaaGreatDoor
